/-
  Contract of the making of a chart, first part.
-/
import Derived.Test.YtmmapkpieimibaaGreatOwnR
import Derived.Deep.RegionHeld3
namespace Go.Proofs.YtmmapkpieimibaaGreat
open Go.RowKit Go.Maps

theorem Blk.grownR {w w' : World} {B : Nat} {row : Option Nat} {vs : List Value} (h : Blk w B vs) (hg : w.grownBy w' row) (hne : some B ≠ row) : Blk w' B vs := by
  have e : w'.heap[B]? = w.heap[B]? := hg.block B h.lt hne
  exact ⟨Nat.lt_of_lt_of_le h.lt hg.size, fun j hj => (World.cell?_of_block (a := ⟨B, j, none⟩) e).trans (h.cell j hj), fun j => (World.frozen?_of_block (a := ⟨B, j, none⟩) e).trans (h.free j)⟩

theorem own_shape {w : World} {base : Nat} {e : TypeId} {q n : Nat} {v : Value} {xs : List Value} (h : w.ownsRow base e q v n xs) : ∃ a c, v = .slice a n c := by
  rcases h.2 with ⟨rfl, rfl⟩ | ⟨g, cap, cur, rfl, _⟩
  · exact ⟨_, _, rfl⟩
  · exact ⟨_, _, rfl⟩

def rowN (A : Nat → Option Addr) (C : Nat → Nat) (l : List NodeD) (i : Nat) : List Value :=
  [.int .i64 (l.getD i ⟨0, 0, 0, []⟩).id, .slice (A i) (l.getD i ⟨0, 0, 0, []⟩).tags.length (C i), .int .i64 (l.getD i ⟨0, 0, 0, []⟩).x, .int .i64 (l.getD i ⟨0, 0, 0, []⟩).y]
theorem rowN_at {A : Nat → Option Addr} {C : Nat → Nat} {l : List NodeD} {i : Nat} (h : i < l.length) : rowN A C l i = [.int .i64 l[i].id, .slice (A i) l[i].tags.length (C i), .int .i64 l[i].x, .int .i64 l[i].y] := by
  unfold rowN; rw [getD_at _ h]
theorem infoNR : (Tryz.prog.info? 91).map (fun i => (i.zero, i.size, i.bytes)) = some (some (.agg #[.int .i64 0, .slice none 0 0, .int .i64 0, .int .i64 0]), 4, 48) := by kernel_rfl

def rowW (A : Nat → Option Addr) (C : Nat → Nat) (A' : Nat → Option Addr) (C' : Nat → Nat) (l : List WayD) (i : Nat) : List Value :=
  [.int .i64 (l.getD i ⟨0, [], []⟩).id, .slice (A' i) (l.getD i ⟨0, [], []⟩).tags.length (C' i), .slice (A i) (l.getD i ⟨0, [], []⟩).nodes.length (C i)]
theorem rowW_at {A : Nat → Option Addr} {C : Nat → Nat} {A' : Nat → Option Addr} {C' : Nat → Nat} {l : List WayD} {i : Nat} (h : i < l.length) : rowW A C A' C' l i = [.int .i64 l[i].id, .slice (A' i) l[i].tags.length (C' i), .slice (A i) l[i].nodes.length (C i)] := by
  unfold rowW; rw [getD_at _ h]
theorem infoWR : (Tryz.prog.info? 95).map (fun i => (i.zero, i.size, i.bytes)) = some (some (.agg #[.int .i64 0, .slice none 0 0, .slice none 0 0]), 3, 56) := by kernel_rfl
def rowA (A : Nat → Option Addr) (C : Nat → Nat) (A' : Nat → Option Addr) (C' : Nat → Nat) (l : List AreaD) (i : Nat) : List Value :=
  [.int .i64 (l.getD i ⟨0, [], []⟩).id, .slice (A' i) (l.getD i ⟨0, [], []⟩).tags.length (C' i), .slice (A i) (l.getD i ⟨0, [], []⟩).parts.length (C i)]
theorem rowA_at {A : Nat → Option Addr} {C : Nat → Nat} {A' : Nat → Option Addr} {C' : Nat → Nat} {l : List AreaD} {i : Nat} (h : i < l.length) : rowA A C A' C' l i = [.int .i64 l[i].id, .slice (A' i) l[i].tags.length (C' i), .slice (A i) l[i].parts.length (C i)] := by
  unfold rowA; rw [getD_at _ h]
theorem infoAR : (Tryz.prog.info? 98).map (fun i => (i.zero, i.size, i.bytes)) = some (some (.agg #[.int .i64 0, .slice none 0 0, .slice none 0 0]), 3, 56) := by kernel_rfl

/-- All but the chart's own block is as it was, and that block holds the three lists. -/
structure Sx (C : Nat) (s0 s1 s2 : Value) (W w' : World) : Prop where
  g : W.grownBy w' (some C)
  b : ∃ u3 u4, Blk w' C [s0, s1, s2, u3, u4]
theorem Sx.drew {C : Nat} {s0 s1 s2 : Value} {W w' : World} (h : Sx C s0 s1 s2 W w') : Sx C s0 s1 s2 W w'.drew := ⟨⟨h.g.os, h.g.tape, h.g.output, h.g.size, h.g.block⟩, by obtain ⟨u3, u4, h⟩ := h.b; exact ⟨u3, u4, h.lt, h.cell, h.free⟩⟩
theorem Sx.bel {C : Nat} {s0 s1 s2 : Value} {W w' w'' : World} (h : Sx C s0 s1 s2 W w') (hb : Bel w' w'') : Sx C s0 s1 s2 W w'' := ⟨grown_step h.g hb, by obtain ⟨u3, u4, h⟩ := h.b; exact ⟨u3, u4, h.bel hb⟩⟩
theorem Sx.set3 {C : Nat} {s0 s1 s2 : Value} {W w' : World} (h : Sx C s0 s1 s2 W w') (u : Value) : Sx C s0 s1 s2 W (w'.setCell ⟨C, 3, none⟩ u) := ⟨grown_set h.g 3 u, by obtain ⟨u3, u4, h⟩ := h.b; exact ⟨u, u4, h.set 3 u (by simp)⟩⟩
theorem Sx.set4 {C : Nat} {s0 s1 s2 : Value} {W w' : World} (h : Sx C s0 s1 s2 W w') (u : Value) : Sx C s0 s1 s2 W (w'.setCell ⟨C, 4, none⟩ u) := ⟨grown_set h.g 4 u, by obtain ⟨u3, u4, h⟩ := h.b; exact ⟨u3, u, h.set 4 u (by simp)⟩⟩

abbrev nilS : Value := .slice none 0 0

/-- No chart. -/
abbrev chZ : Value := .agg #[nilS, nilS, nilS, .map none, .map none]

set_option maxRecDepth 100000 in
set_option maxHeartbeats 8000000 in
theorem chartOf_yes (a0 : Option Addr) (n0 c0 : Nat) (ns : List NodeD) (bs0 : List Nat) (a1 : Option Addr) (n1 c1 : Nat) (ws : List WayD) (bs1 : List Nat) (a2 : Option Addr) (n2 c2 : Nat) (rs : List AreaD) (bs2 : List Nat) (w : World)
    (t0 : Nodes w a0 ns bs0) (e0 : ns.length = n0) (m0 : n0 ≤ 5000) (t1 : Ways w a1 ws bs1) (e1 : ws.length = n1) (m1 : n1 ≤ 1000) (t2 : Areas w a2 rs bs2) (e2 : rs.length = n2) (m2 : n2 ≤ 300)
    (u0 : ∀ i (h : i < ns.length), ns[i].tags.length ≤ 1048576) (u1 : ∀ i (h : i < ws.length), ws[i].nodes.length ≤ 1048576 ∧ ws[i].tags.length ≤ 1048576) (u2 : ∀ i (h : i < rs.length), rs[i].parts.length ≤ 1048576 ∧ rs[i].tags.length ≤ 1048576) :
    Calls Tryz.prog 32 #[.agg #[.slice a0 n0 c0, .slice a1 n1 c1, .slice a2 n2 c2]] w fun e w' => (bP (ChartP ns ws rs n0 n1 n2) = true ∧ ∃ b0 k0 b1 k1 b2 k2 bN bW q0 q1 q2, e = .returned (.tuple #[chV b0 n0 k0 b1 n1 k1 b2 n2 k2 bN bW, .bool true]) ∧ NRecs w' b0 ns q0 ∧ WRecs w' b1 ws q1 ∧ ARecs w' b2 rs q2 ∧ MapAt w' bN n0 (plc (nId ns) n0) ∧ MapAt w' bW n1 (plc (wId ws) n1) ∧ Bel w w') ∨
      (bP (ChartP ns ws rs n0 n1 n2) = false ∧ e = .returned (.tuple #[chZ, .bool false]) ∧ Bel w w') := by
  have E0 : Hid (ns.length = n0) := e0
  have E1 : Hid (ws.length = n1) := e1
  have E2 : Hid (rs.length = n2) := e2
  clear e0 e1 e2
  obtain ⟨i0, hi0, hz00, hz01, hz02⟩ := info_parts infoNR
  obtain ⟨i1, hi1, hz10, hz11, hz12⟩ := info_parts infoWR
  obtain ⟨i2, hi2, hz20, hz21, hz22⟩ := info_parts infoAR
  go_enter Tryz.func32, Tryz.ntmps32
  go_wp2
  obtain ⟨W1, HW⟩ : ∃ W, Hid (W = ((w.alloc (.cells #[.slice a0 n0 c0, .slice a1 n1 c1, .slice a2 n2 c2] 36)).alloc (.cells #[nilS, nilS, nilS, .map none, .map none] 81)).alloc (.cells #[nilS, nilS, nilS, .map none, .map none] 81)) := ⟨_, (rfl : _ = _)⟩
  have hB1 : Bel w W1 := by rw [HW.out]; exact bel_alloc (bel_alloc (bel_alloc (Bel.refl _) _) _) _
  have hz1W : W1.heap.size = w.heap.size + 1 + 1 + 1 := by rw [HW.out]; simp
  have X1 : Blk W1 w.heap.size [.slice a0 n0 c0, .slice a1 n1 c1, .slice a2 n2 c2] := by rw [HW.out]; exact (Blk.new w [.slice a0 n0 c0, .slice a1 n1 c1, .slice a2 n2 c2] _).bel (bel_alloc (bel_alloc (Bel.refl _) _) _)
  have R1 : Blk W1 (w.heap.size + 1) [nilS, nilS, nilS, .map none, .map none] := by rw [HW.out]; exact (Blk.new1 w _ [nilS, nilS, nilS, .map none, .map none] _).bel (bel_alloc (Bel.refl _) _)
  have O1 : Blk W1 (w.heap.size + 1 + 1) [nilS, nilS, nilS, .map none, .map none] := by rw [HW.out]; exact Blk.new2 w _ _ [nilS, nilS, nilS, .map none, .map none] _
  rw [← HW.out]
  obtain ⟨A0, C0, f0, hf0, hx0⟩ := name_nodes t0
  have HX0 : Hid _ := hx0
  obtain ⟨A1, C1, A1', C1', f1, f1', hf1, hx1⟩ := name_ways t1
  have HX1 : Hid _ := hx1
  obtain ⟨A2, C2, A2', C2', f2, f2', hf2, hx2⟩ := name_areas t2
  have HX2 : Hid _ := hx2
  clear hx0 hx1 hx2 HW
  have x10 : W1.cell? ⟨w.heap.size, 0, none⟩ = some (.slice a0 n0 c0) := X1.cell 0 (by simp)

  go_loopw [6, 31] (fun _ i wr => ∃ (k : Nat) (v : Value), k ≤ n0 ∧ i = .int .i64 k ∧ Blk wr (w.heap.size + 1 + 1) [v, nilS, nilS, .map none, .map none] ∧ wr.ownsRow (w.heap.size + 1 + 1 + 1) 91 4 v k (recs (rowN A0 C0 ns) k) ∧ W1.grownBy wr (some (w.heap.size + 1 + 1))) (fun _ i _ => n0 - (intOf i).toNat)
  case atStart => exact ⟨0, nilS, Nat.zero_le _, rfl, O1, World.ownsRow_nil _ _ _ _, World.grownBy.refl _ _⟩
  case round =>
    obtain ⟨k, v, hk, rfl, hO, hown, hgr⟩ := hrel
    have hBr : Bel w wr := bel_grow hB1 hgr (fun k e => by injection e with e; omega)
    by_cases hlt : k < n0
    · have hkl : k < ns.length := by rw [E0.out]; exact hlt
      obtain ⟨b, off, rfl, hb, _, _, _, d0, d1, d2, _, d3, _⟩ := HX0.out k hkl
      have d0 := bel_cellM hBr hb d0
      have d1 := bel_cellM hBr hb d1
      have d2 := bel_cellM hBr hb d2
      have d3 := bel_cellM hBr hb d3
      have o0 : wr.cell? ⟨w.heap.size + 1 + 1, 0, none⟩ = some v := hO.cell 0 (by simp)
      have hol := hO.lt
      have hO2 := (hO.bel (bel_alloc (Bel.refl wr) (.cells #[.int .i64 ns[k].id, .int .i64 ns[k].x, .int .i64 ns[k].y, .slice (A0 k) ns[k].tags.length (C0 k)] 58))).bel (bel_alloc (Bel.refl _) (.cells #[.int .i64 ns[k].id, .slice (A0 k) ns[k].tags.length (C0 k), .int .i64 ns[k].x, .int .i64 ns[k].y] 91))
      have hown2 := World.ownsRow.alloc (World.ownsRow.alloc hown (.cells #[.int .i64 ns[k].id, .int .i64 ns[k].x, .int .i64 ns[k].y, .slice (A0 k) ns[k].tags.length (C0 k)] 58)) (.cells #[.int .i64 ns[k].id, .slice (A0 k) ns[k].tags.length (C0 k), .int .i64 ns[k].x, .int .i64 ns[k].y] 91)
      have hgr2 := grown_step hgr (bel_alloc (bel_alloc (Bel.refl wr) (.cells #[.int .i64 ns[k].id, .int .i64 ns[k].x, .int .i64 ns[k].y, .slice (A0 k) ns[k].tags.length (C0 k)] 58)) (.cells #[.int .i64 ns[k].id, .slice (A0 k) ns[k].tags.length (C0 k), .int .i64 ns[k].x, .int .i64 ns[k].y] 91))
      have hbr2 := bel_alloc (bel_alloc hBr (.cells #[.int .i64 ns[k].id, .int .i64 ns[k].x, .int .i64 ns[k].y, .slice (A0 k) ns[k].tags.length (C0 k)] 58)) (.cells #[.int .i64 ns[k].id, .slice (A0 k) ns[k].tags.length (C0 k), .int .i64 ns[k].x, .int .i64 ns[k].y] 91)
      have hgs := hgr.size
      have HO : Hid (wr.ownsRow (w.heap.size + 1 + 1 + 1) 91 4 v k (recs (rowN A0 C0 ns) k)) := hown
      clear hown hO hgr
      go_wp2_with (first
        | (at_builtin; refine wpList_append_own _ rfl _ _ 76 rfl (w.heap.size + 1 + 1 + 1) 91 i0 (.agg #[.int .i64 0, .slice none 0 0, .int .i64 0, .int .i64 0]) 4 48 Tryz.underlying76 hi0 hz00 hz01 hz02 rfl (by decide) _ _ _ rfl hown2 ⟨wr.heap.size + 1, 0, none⟩ 1 1 [.int .i64 ns[k].id, .slice (A0 k) ns[k].tags.length (C0 k), .int .i64 ns[k].x, .int .i64 ns[k].y] rfl rfl ?c1 ?c2 ?c3 ?c4 ?c5 ?_)
        | go_in)
      case c1 =>
        intro j u hj
        match j, hj with
        | 0, hj => simp at hj; subst hj; simp [Addr.add]
        | 1, hj => simp at hj; subst hj; simp [Addr.add]
        | 2, hj => simp at hj; subst hj; simp [Addr.add]
        | 3, hj => simp at hj; subst hj; simp [Addr.add]
      case c2 =>
        intro u hu
        simp at hu
        rcases hu with rfl | rfl | rfl | rfl <;> rfl
      case c3 => unfold maxLen; omega
      case c4 => omega
      case c5 => simp; omega
      intro v' w3 hown' hgrow _
      obtain ⟨va, vc, rfl⟩ := own_shape hown'
      have hne : some (w.heap.size + 1 + 1) ≠ v.ownBlock := fun e => by have := (hown2.lt _ e.symm).1; omega
      have hO3 := hO2.grownR hgrow hne
      have p0 : w3.cell? ⟨w.heap.size + 1 + 1, 0, none⟩ = some (v) := hO3.cell 0 (by simp)
      have p1 : w3.cell? ⟨w.heap.size + 1 + 1, 1, none⟩ = some (nilS) := hO3.cell 1 (by simp)
      have p2 : w3.cell? ⟨w.heap.size + 1 + 1, 2, none⟩ = some (nilS) := hO3.cell 2 (by simp)
      have p3 : w3.cell? ⟨w.heap.size + 1 + 1, 3, none⟩ = some (.map none) := hO3.cell 3 (by simp)
      have p4 : w3.cell? ⟨w.heap.size + 1 + 1, 4, none⟩ = some (.map none) := hO3.cell 4 (by simp)
      have pf := hO3.free
      have hG3 : W1.grownBy w3 (some (w.heap.size + 1 + 1)) := hgr2.andThen hgrow (fun j e => .inl (by have := (hown2.lt j e).1; omega))
      have HO3 : Hid (w3.ownsRow (w.heap.size + 1 + 1 + 1) 91 4 (.slice va (k + 1) vc) (k + 1) (recs (rowN A0 C0 ns) (k + 1))) := by rw [recs_succ, rowN_at hkl]; exact hown'
      clear hown' hgrow hown2 hO2 hgr2 HO d0 d1 d2 d3 o0
      go_wp2
      go_roundw
      case rel => exact ⟨k + 1, .slice va (k + 1) vc, by omega, by go_num, hO3.set 0 _ (by simp), own_kept HO3.out (grown_set (World.grownBy.refl w3 _) 0 _) (by omega), grown_set hG3 0 _⟩
      case measure => simp [intOf]; omega
    · have e : n0 = k := by omega
      subst e
      obtain ⟨b0, k0, q0, rfl, hR0, hq0⟩ := own_sl (E := NRecE) (l := ns) (R := rowN A0 C0 ns) E0.out (fun i => rfl) hown f0 (fun i hi b o G => by
        obtain ⟨_, _, _, _, i1, i2, i3, _, _, _, ml, _, tt⟩ := HX0.out i hi
        rw [rowN_at hi] at G
        exact ⟨i1, i2, i3, G 0 (by simp), G 2 (by simp), G 3 (by simp), A0 i, C0 i, ml, G 1 (by simp), tt.bel tagE hBr⟩)
      have hc0 : w.heap.size + 1 + 1 ∉ q0 := fun hx => by
        rcases hq0 _ hx with h | ⟨i, hi, h⟩
        · omega
        · have := t0.lt nodeE _ (hf0 i (by rw [E0.out]; exact hi) _ h); omega
      have hd0 : w.heap.size + 1 ∉ q0 := fun hx => by
        rcases hq0 _ hx with h | ⟨i, hi, h⟩
        · omega
        · have := t0.lt nodeE _ (hf0 i (by rw [E0.out]; exact hi) _ h); omega
      clear hown
      have X2 := X1.grown hgr (by omega)
      have R2 := R1.grown hgr (by omega)
      have O2 := hO
      have hs2 := hgr.size
      have hB2 := hBr
      clear hO hBr hgr
      obtain ⟨W2, HW2⟩ : ∃ W, Hid (W = wr) := ⟨_, (rfl : wr = _)⟩
      rw [← HW2.out]
      rw [← HW2.out] at X2 R2 O2 hs2 hB2 hR0
      clear HW2
      have x20 : W2.cell? ⟨w.heap.size, 0, none⟩ = some (.slice a0 n0 c0) := X2.cell 0 (by simp)
      have x21 : W2.cell? ⟨w.heap.size, 1, none⟩ = some (.slice a1 n1 c1) := X2.cell 1 (by simp)
      have x22 : W2.cell? ⟨w.heap.size, 2, none⟩ = some (.slice a2 n2 c2) := X2.cell 2 (by simp)
      go_wp2
      go_loopw [8, 52] (fun _ i wr => ∃ (k : Nat) (v : Value), k ≤ n1 ∧ i = .int .i64 k ∧ Blk wr (w.heap.size + 1 + 1) [.slice b0 n0 k0, v, nilS, .map none, .map none] ∧ wr.ownsRow (W2.heap.size) 95 3 v k (recs (rowW A1 C1 A1' C1' ws) k) ∧ W2.grownBy wr (some (w.heap.size + 1 + 1))) (fun _ i _ => n1 - (intOf i).toNat)
      case atStart => exact ⟨0, nilS, Nat.zero_le _, rfl, O2, World.ownsRow_nil _ _ _ _, World.grownBy.refl _ _⟩
      case round =>
        obtain ⟨k, v, hk, rfl, hO, hown, hgr⟩ := hrel
        have hBr : Bel w wr := bel_grow hB2 hgr (fun k e => by injection e with e; omega)
        by_cases hlt : k < n1
        · have hkl : k < ws.length := by rw [E1.out]; exact hlt
          obtain ⟨b, off, rfl, hb, _, d0, _, _, d1, _, d2, _⟩ := HX1.out k hkl
          have d0 := bel_cellM hBr hb d0
          have d1 := bel_cellM hBr hb d1
          have d2 := bel_cellM hBr hb d2
          have o0 : wr.cell? ⟨w.heap.size + 1 + 1, 1, none⟩ = some v := hO.cell 1 (by simp)
          have hol := hO.lt
          have hO2 := (hO.bel (bel_alloc (Bel.refl wr) (.cells #[.int .i64 ws[k].id, .slice (A1 k) ws[k].nodes.length (C1 k), .slice (A1' k) ws[k].tags.length (C1' k)] 62))).bel (bel_alloc (Bel.refl _) (.cells #[.int .i64 ws[k].id, .slice (A1' k) ws[k].tags.length (C1' k), .slice (A1 k) ws[k].nodes.length (C1 k)] 95))
          have hown2 := World.ownsRow.alloc (World.ownsRow.alloc hown (.cells #[.int .i64 ws[k].id, .slice (A1 k) ws[k].nodes.length (C1 k), .slice (A1' k) ws[k].tags.length (C1' k)] 62)) (.cells #[.int .i64 ws[k].id, .slice (A1' k) ws[k].tags.length (C1' k), .slice (A1 k) ws[k].nodes.length (C1 k)] 95)
          have hgr2 := grown_step hgr (bel_alloc (bel_alloc (Bel.refl wr) (.cells #[.int .i64 ws[k].id, .slice (A1 k) ws[k].nodes.length (C1 k), .slice (A1' k) ws[k].tags.length (C1' k)] 62)) (.cells #[.int .i64 ws[k].id, .slice (A1' k) ws[k].tags.length (C1' k), .slice (A1 k) ws[k].nodes.length (C1 k)] 95))
          have hbr2 := bel_alloc (bel_alloc hBr (.cells #[.int .i64 ws[k].id, .slice (A1 k) ws[k].nodes.length (C1 k), .slice (A1' k) ws[k].tags.length (C1' k)] 62)) (.cells #[.int .i64 ws[k].id, .slice (A1' k) ws[k].tags.length (C1' k), .slice (A1 k) ws[k].nodes.length (C1 k)] 95)
          have hgs := hgr.size
          have HO : Hid (wr.ownsRow (W2.heap.size) 95 3 v k (recs (rowW A1 C1 A1' C1' ws) k)) := hown
          clear hown hO hgr
          go_wp2_with (first
            | (at_builtin; refine wpList_append_own _ rfl _ _ 77 rfl (W2.heap.size) 95 i1 (.agg #[.int .i64 0, .slice none 0 0, .slice none 0 0]) 3 56 Tryz.underlying77 hi1 hz10 hz11 hz12 rfl (by decide) _ _ _ rfl hown2 ⟨wr.heap.size + 1, 0, none⟩ 1 1 [.int .i64 ws[k].id, .slice (A1' k) ws[k].tags.length (C1' k), .slice (A1 k) ws[k].nodes.length (C1 k)] rfl rfl ?c1 ?c2 ?c3 ?c4 ?c5 ?_)
            | go_in)
          case c1 =>
            intro j u hj
            match j, hj with
            | 0, hj => simp at hj; subst hj; simp [Addr.add]
            | 1, hj => simp at hj; subst hj; simp [Addr.add]
            | 2, hj => simp at hj; subst hj; simp [Addr.add]
          case c2 =>
            intro u hu
            simp at hu
            rcases hu with rfl | rfl | rfl <;> rfl
          case c3 => unfold maxLen; omega
          case c4 => omega
          case c5 => simp; omega
          intro v' w3 hown' hgrow _
          obtain ⟨va, vc, rfl⟩ := own_shape hown'
          have hne : some (w.heap.size + 1 + 1) ≠ v.ownBlock := fun e => by have := (hown2.lt _ e.symm).1; omega
          have hO3 := hO2.grownR hgrow hne
          have p0 : w3.cell? ⟨w.heap.size + 1 + 1, 0, none⟩ = some (.slice b0 n0 k0) := hO3.cell 0 (by simp)
          have p1 : w3.cell? ⟨w.heap.size + 1 + 1, 1, none⟩ = some (v) := hO3.cell 1 (by simp)
          have p2 : w3.cell? ⟨w.heap.size + 1 + 1, 2, none⟩ = some (nilS) := hO3.cell 2 (by simp)
          have p3 : w3.cell? ⟨w.heap.size + 1 + 1, 3, none⟩ = some (.map none) := hO3.cell 3 (by simp)
          have p4 : w3.cell? ⟨w.heap.size + 1 + 1, 4, none⟩ = some (.map none) := hO3.cell 4 (by simp)
          have pf := hO3.free
          have hG3 : W2.grownBy w3 (some (w.heap.size + 1 + 1)) := hgr2.andThen hgrow (fun j e => .inl (by have := (hown2.lt j e).1; omega))
          have HO3 : Hid (w3.ownsRow (W2.heap.size) 95 3 (.slice va (k + 1) vc) (k + 1) (recs (rowW A1 C1 A1' C1' ws) (k + 1))) := by rw [recs_succ, rowW_at hkl]; exact hown'
          clear hown' hgrow hown2 hO2 hgr2 HO d0 d1 d2 o0
          go_wp2
          go_roundw
          case rel => exact ⟨k + 1, .slice va (k + 1) vc, by omega, by go_num, hO3.set 1 _ (by simp), own_kept HO3.out (grown_set (World.grownBy.refl w3 _) 1 _) (by omega), grown_set hG3 1 _⟩
          case measure => simp [intOf]; omega
        · have e : n1 = k := by omega
          subst e
          obtain ⟨b1, k1, q1, rfl, hR1, hq1⟩ := own_sl (E := WRecE) (l := ws) (R := rowW A1 C1 A1' C1' ws) E1.out (fun i => rfl) hown (fun i => f1 i ++ f1' i) (fun i hi b o G => by
            obtain ⟨_, _, _, _, i1, _, ml1, ml2, _, tt1, _, tt2⟩ := HX1.out i hi
            rw [rowW_at hi] at G
            exact ⟨i1, G 0 (by simp), A1 i, C1 i, A1' i, C1' i, f1 i, f1' i, rfl, ml1, ml2, G 2 (by simp), tt1.bel intE hBr, G 1 (by simp), tt2.bel tagE hBr⟩)
          have hc1 : w.heap.size + 1 + 1 ∉ q1 := fun hx => by
            rcases hq1 _ hx with h | ⟨i, hi, h⟩
            · omega
            · have := t1.lt wayE _ (hf1 i (by rw [E1.out]; exact hi) _ h); omega
          have hd1 : w.heap.size + 1 ∉ q1 := fun hx => by
            rcases hq1 _ hx with h | ⟨i, hi, h⟩
            · omega
            · have := t1.lt wayE _ (hf1 i (by rw [E1.out]; exact hi) _ h); omega
          clear hown
          have X3 := X2.grown hgr (by omega)
          have R3 := R2.grown hgr (by omega)
          have hR0 := hR0.grown nRecE hgr hc0
          have O3 := hO
          have hs3 := hgr.size
          have hB3 := hBr
          clear hO hBr hgr
          obtain ⟨W3, HW3⟩ : ∃ W, Hid (W = wr) := ⟨_, (rfl : wr = _)⟩
          rw [← HW3.out]
          rw [← HW3.out] at X3 R3 O3 hs3 hB3 hR0 hR1
          clear HW3
          have x30 : W3.cell? ⟨w.heap.size, 0, none⟩ = some (.slice a0 n0 c0) := X3.cell 0 (by simp)
          have x31 : W3.cell? ⟨w.heap.size, 1, none⟩ = some (.slice a1 n1 c1) := X3.cell 1 (by simp)
          have x32 : W3.cell? ⟨w.heap.size, 2, none⟩ = some (.slice a2 n2 c2) := X3.cell 2 (by simp)
          go_wp2
          go_loopw [10, 73] (fun _ i wr => ∃ (k : Nat) (v : Value), k ≤ n2 ∧ i = .int .i64 k ∧ Blk wr (w.heap.size + 1 + 1) [.slice b0 n0 k0, .slice b1 n1 k1, v, .map none, .map none] ∧ wr.ownsRow (W3.heap.size) 98 3 v k (recs (rowA A2 C2 A2' C2' rs) k) ∧ W3.grownBy wr (some (w.heap.size + 1 + 1))) (fun _ i _ => n2 - (intOf i).toNat)
          case atStart => exact ⟨0, nilS, Nat.zero_le _, rfl, O3, World.ownsRow_nil _ _ _ _, World.grownBy.refl _ _⟩
          case round =>
            obtain ⟨k, v, hk, rfl, hO, hown, hgr⟩ := hrel
            have hBr : Bel w wr := bel_grow hB3 hgr (fun k e => by injection e with e; omega)
            by_cases hlt : k < n2
            · have hkl : k < rs.length := by rw [E2.out]; exact hlt
              obtain ⟨b, off, rfl, hb, _, d0, _, _, d1, _, d2, _⟩ := HX2.out k hkl
              have d0 := bel_cellM hBr hb d0
              have d1 := bel_cellM hBr hb d1
              have d2 := bel_cellM hBr hb d2
              have o0 : wr.cell? ⟨w.heap.size + 1 + 1, 2, none⟩ = some v := hO.cell 2 (by simp)
              have hol := hO.lt
              have hO2 := (hO.bel (bel_alloc (Bel.refl wr) (.cells #[.int .i64 rs[k].id, .slice (A2 k) rs[k].parts.length (C2 k), .slice (A2' k) rs[k].tags.length (C2' k)] 68))).bel (bel_alloc (Bel.refl _) (.cells #[.int .i64 rs[k].id, .slice (A2' k) rs[k].tags.length (C2' k), .slice (A2 k) rs[k].parts.length (C2 k)] 98))
              have hown2 := World.ownsRow.alloc (World.ownsRow.alloc hown (.cells #[.int .i64 rs[k].id, .slice (A2 k) rs[k].parts.length (C2 k), .slice (A2' k) rs[k].tags.length (C2' k)] 68)) (.cells #[.int .i64 rs[k].id, .slice (A2' k) rs[k].tags.length (C2' k), .slice (A2 k) rs[k].parts.length (C2 k)] 98)
              have hgr2 := grown_step hgr (bel_alloc (bel_alloc (Bel.refl wr) (.cells #[.int .i64 rs[k].id, .slice (A2 k) rs[k].parts.length (C2 k), .slice (A2' k) rs[k].tags.length (C2' k)] 68)) (.cells #[.int .i64 rs[k].id, .slice (A2' k) rs[k].tags.length (C2' k), .slice (A2 k) rs[k].parts.length (C2 k)] 98))
              have hbr2 := bel_alloc (bel_alloc hBr (.cells #[.int .i64 rs[k].id, .slice (A2 k) rs[k].parts.length (C2 k), .slice (A2' k) rs[k].tags.length (C2' k)] 68)) (.cells #[.int .i64 rs[k].id, .slice (A2' k) rs[k].tags.length (C2' k), .slice (A2 k) rs[k].parts.length (C2 k)] 98)
              have hgs := hgr.size
              have HO : Hid (wr.ownsRow (W3.heap.size) 98 3 v k (recs (rowA A2 C2 A2' C2' rs) k)) := hown
              clear hown hO hgr
              go_wp2_with (first
                | (at_builtin; refine wpList_append_own _ rfl _ _ 78 rfl (W3.heap.size) 98 i2 (.agg #[.int .i64 0, .slice none 0 0, .slice none 0 0]) 3 56 Tryz.underlying78 hi2 hz20 hz21 hz22 rfl (by decide) _ _ _ rfl hown2 ⟨wr.heap.size + 1, 0, none⟩ 1 1 [.int .i64 rs[k].id, .slice (A2' k) rs[k].tags.length (C2' k), .slice (A2 k) rs[k].parts.length (C2 k)] rfl rfl ?c1 ?c2 ?c3 ?c4 ?c5 ?_)
                | go_in)
              case c1 =>
                intro j u hj
                match j, hj with
                | 0, hj => simp at hj; subst hj; simp [Addr.add]
                | 1, hj => simp at hj; subst hj; simp [Addr.add]
                | 2, hj => simp at hj; subst hj; simp [Addr.add]
              case c2 =>
                intro u hu
                simp at hu
                rcases hu with rfl | rfl | rfl <;> rfl
              case c3 => unfold maxLen; omega
              case c4 => omega
              case c5 => simp; omega
              intro v' w3 hown' hgrow _
              obtain ⟨va, vc, rfl⟩ := own_shape hown'
              have hne : some (w.heap.size + 1 + 1) ≠ v.ownBlock := fun e => by have := (hown2.lt _ e.symm).1; omega
              have hO3 := hO2.grownR hgrow hne
              have p0 : w3.cell? ⟨w.heap.size + 1 + 1, 0, none⟩ = some (.slice b0 n0 k0) := hO3.cell 0 (by simp)
              have p1 : w3.cell? ⟨w.heap.size + 1 + 1, 1, none⟩ = some (.slice b1 n1 k1) := hO3.cell 1 (by simp)
              have p2 : w3.cell? ⟨w.heap.size + 1 + 1, 2, none⟩ = some (v) := hO3.cell 2 (by simp)
              have p3 : w3.cell? ⟨w.heap.size + 1 + 1, 3, none⟩ = some (.map none) := hO3.cell 3 (by simp)
              have p4 : w3.cell? ⟨w.heap.size + 1 + 1, 4, none⟩ = some (.map none) := hO3.cell 4 (by simp)
              have pf := hO3.free
              have hG3 : W3.grownBy w3 (some (w.heap.size + 1 + 1)) := hgr2.andThen hgrow (fun j e => .inl (by have := (hown2.lt j e).1; omega))
              have HO3 : Hid (w3.ownsRow (W3.heap.size) 98 3 (.slice va (k + 1) vc) (k + 1) (recs (rowA A2 C2 A2' C2' rs) (k + 1))) := by rw [recs_succ, rowA_at hkl]; exact hown'
              clear hown' hgrow hown2 hO2 hgr2 HO d0 d1 d2 o0
              go_wp2
              go_roundw
              case rel => exact ⟨k + 1, .slice va (k + 1) vc, by omega, by go_num, hO3.set 2 _ (by simp), own_kept HO3.out (grown_set (World.grownBy.refl w3 _) 2 _) (by omega), grown_set hG3 2 _⟩
              case measure => simp [intOf]; omega
            · have e : n2 = k := by omega
              subst e
              obtain ⟨b2, k2, q2, rfl, hR2, hq2⟩ := own_sl (E := ARecE) (l := rs) (R := rowA A2 C2 A2' C2' rs) E2.out (fun i => rfl) hown (fun i => f2 i ++ f2' i) (fun i hi b o G => by
                obtain ⟨_, _, _, _, i1, _, ml1, ml2, _, tt1, _, tt2⟩ := HX2.out i hi
                rw [rowA_at hi] at G
                exact ⟨i1, G 0 (by simp), A2 i, C2 i, A2' i, C2' i, f2 i, f2' i, rfl, ml1, ml2, G 2 (by simp), tt1.bel partE hBr, G 1 (by simp), tt2.bel tagE hBr⟩)
              have hc2 : w.heap.size + 1 + 1 ∉ q2 := fun hx => by
                rcases hq2 _ hx with h | ⟨i, hi, h⟩
                · omega
                · have := t2.lt areaE _ (hf2 i (by rw [E2.out]; exact hi) _ h); omega
              have hd2 : w.heap.size + 1 ∉ q2 := fun hx => by
                rcases hq2 _ hx with h | ⟨i, hi, h⟩
                · omega
                · have := t2.lt areaE _ (hf2 i (by rw [E2.out]; exact hi) _ h); omega
              clear hown
              have X4 := X3.grown hgr (by omega)
              have R4 := R3.grown hgr (by omega)
              have hR0 := hR0.grown nRecE hgr hc0
              have hR1 := hR1.grown wRecE hgr hc1
              have O4 := hO
              have hs4 := hgr.size
              have hB4 := hBr
              clear hO hBr hgr
              obtain ⟨W4, HW4⟩ : ∃ W, Hid (W = wr) := ⟨_, (rfl : wr = _)⟩
              rw [← HW4.out]
              rw [← HW4.out] at X4 R4 O4 hs4 hB4 hR0 hR1 hR2
              clear HW4
              have x40 : W4.cell? ⟨w.heap.size, 0, none⟩ = some (.slice a0 n0 c0) := X4.cell 0 (by simp)
              have x41 : W4.cell? ⟨w.heap.size, 1, none⟩ = some (.slice a1 n1 c1) := X4.cell 1 (by simp)
              have x42 : W4.cell? ⟨w.heap.size, 2, none⟩ = some (.slice a2 n2 c2) := X4.cell 2 (by simp)
              go_wp2
              have g0 : Sx (w.heap.size + 1 + 1) (.slice b0 n0 k0) (.slice b1 n1 k1) (.slice b2 n2 k2) W4 W4 := ⟨World.grownBy.refl _ _, _, _, O4⟩
              have hR : ∀ w', Sx (w.heap.size + 1 + 1) (.slice b0 n0 k0) (.slice b1 n1 k1) (.slice b2 n2 k2) W4 w' → w'.cell? ⟨w.heap.size + 1 + 1, 0, none⟩ = some (.slice b0 n0 k0) ∧ w'.cell? ⟨w.heap.size + 1 + 1, 1, none⟩ = some (.slice b1 n1 k1) ∧ w'.frozen? ⟨w.heap.size + 1 + 1, 3, none⟩ = false ∧ w'.frozen? ⟨w.heap.size + 1 + 1, 4, none⟩ = false :=
                fun w' h => by obtain ⟨u3, u4, h⟩ := h.b; exact ⟨h.cell 0 (by simp), h.cell 1 (by simp), h.free 3, h.free 4⟩
              have hN0 : ∀ w', Sx (w.heap.size + 1 + 1) (.slice b0 n0 k0) (.slice b1 n1 k1) (.slice b2 n2 k2) W4 w' → NRecs w' b0 ns q0 := fun w' h => hR0.grown nRecE h.g hc0
              have hW0 : ∀ w', Sx (w.heap.size + 1 + 1) (.slice b0 n0 k0) (.slice b1 n1 k1) (.slice b2 n2 k2) W4 w' → WRecs w' b1 ws q1 := fun w' h => hR1.grown wRecE h.g hc1
              go_region_held3 (fun w' => Sx (w.heap.size + 1 + 1) (.slice b0 n0 k0) (.slice b1 n1 k1) (.slice b2 n2 k2) W4 w') (with_reducible (repeat (first | assumption | exact g0 | refine Sx.drew ?_ | refine Sx.set3 ?_ _ | refine Sx.set4 ?_ _ | refine Sx.bel (by assumption) (by assumption))))
                (first
                  | (go_at_call 81; refine (placesN_any _ _ _ ns q0 _ (hN0 _ (by assumption)) E0.out (by omega)).mono ?_; rintro e w5 ⟨bN, rfl, hbN, hMN, hb5⟩)
                  | (go_at_call 82; refine (placesW_any _ _ _ ws q1 _ (hW0 _ (by assumption)) E1.out (by omega)).mono ?_; rintro e w6 ⟨bW, rfl, hbW, hMW, hb6⟩; obtain ⟨u3, u4, hU⟩ := (Sx.bel (C := w.heap.size + 1 + 1) (s0 := .slice b0 n0 k0) (s1 := .slice b1 n1 k1) (s2 := .slice b2 n2 k2) (W := W4) (by assumption) hb6).b; have v3 : w6.cell? ⟨w.heap.size + 1 + 1, 3, none⟩ = some u3 := hU.cell 3 (by simp); have v4 : w6.cell? ⟨w.heap.size + 1 + 1, 4, none⟩ = some u4 := hU.cell 4 (by simp)))
              have hF : Sx (w.heap.size + 1 + 1) (.slice b0 n0 k0) (.slice b1 n1 k1) (.slice b2 n2 k2) W4 ((w6.setCell ⟨w.heap.size + 1 + 1, 3, none⟩ (.map (some bN))).setCell ⟨w.heap.size + 1 + 1, 4, none⟩ (.map (some bW))) := by assumption
              have hO5 : Blk ((w6.setCell ⟨w.heap.size + 1 + 1, 3, none⟩ (.map (some bN))).setCell ⟨w.heap.size + 1 + 1, 4, none⟩ (.map (some bW))) (w.heap.size + 1 + 1) [.slice b0 n0 k0, .slice b1 n1 k1, .slice b2 n2 k2, .map (some bN), .map (some bW)] := (hU.set 3 _ (by simp)).set 4 _ (by simp)
              have hs4' := O4.lt
              have hbN' : w.heap.size + 1 + 1 < bN := Nat.lt_of_lt_of_le hs4' hbN
              have hbW' : w.heap.size + 1 + 1 < bW := Nat.lt_of_lt_of_le hs4' (Nat.le_trans hb5.out.size hbW)
              have hg6 := grown_set (grown_set (World.grownBy.refl w6 (some (w.heap.size + 1 + 1))) 3 (.map (some bN))) 4 (.map (some bW))
              have hMN5 := (hMN.bel hb6).grown hg6 (by omega)
              have hMW5 := hMW.grown hg6 (by omega)
              have hN5 := hN0 _ hF
              have hW5 := hW0 _ hF
              have hA5 := hR2.grown aRecE hF.g hc2
              have R5 := R4.grown hF.g (by omega)
              have hB5 := bel_grow hB4 hF.g (fun k e => by injection e with e; omega)
              obtain ⟨W5, HW5⟩ : ∃ W, Hid (W = (w6.setCell ⟨w.heap.size + 1 + 1, 3, none⟩ (.map (some bN))).setCell ⟨w.heap.size + 1 + 1, 4, none⟩ (.map (some bW))) := ⟨_, (rfl : _ = _)⟩
              rw [← HW5.out]
              rw [← HW5.out] at hO5 hMN5 hMW5 hN5 hW5 hA5 R5 hB5
              clear HW5 hF hg6 hMN hMW hN0 hW0 hR0 hR1 hR2 R4 O4 X4 hU v3 v4 hR g0 hb5 hb6 hbN hbW
              have y50 : W5.cell? ⟨w.heap.size + 1 + 1, 0, none⟩ = some (.slice b0 n0 k0) := hO5.cell 0 (by simp)
              have y51 : W5.cell? ⟨w.heap.size + 1 + 1, 1, none⟩ = some (.slice b1 n1 k1) := hO5.cell 1 (by simp)
              have y52 : W5.cell? ⟨w.heap.size + 1 + 1, 2, none⟩ = some (.slice b2 n2 k2) := hO5.cell 2 (by simp)
              have y53 : W5.cell? ⟨w.heap.size + 1 + 1, 3, none⟩ = some (.map (some bN)) := hO5.cell 3 (by simp)
              have y54 : W5.cell? ⟨w.heap.size + 1 + 1, 4, none⟩ = some (.map (some bW)) := hO5.cell 4 (by simp)
              go_wp2_with fail
              refine (chartOk_any _ _ _ _ _ _ _ _ _ _ _ ns ws rs q0 q1 q2 _ hN5 E0.out (by omega) u0 hW5 E1.out (by omega) u1 hA5 E2.out (by omega) u2 hMN5 hMW5).mono ?_
              rintro e w7 ⟨rfl, hb7⟩
              have hB7 := bel_step hB5 hb7
              have hO7 := hO5.bel hb7
              have R7 := R5.bel hb7
              have y70 : w7.cell? ⟨w.heap.size + 1 + 1, 0, none⟩ = some (.slice b0 n0 k0) := hO7.cell 0 (by simp)
              have r70 : w7.cell? ⟨w.heap.size + 1, 0, none⟩ = some (nilS) := R7.cell 0 (by simp)
              have y71 : w7.cell? ⟨w.heap.size + 1 + 1, 1, none⟩ = some (.slice b1 n1 k1) := hO7.cell 1 (by simp)
              have r71 : w7.cell? ⟨w.heap.size + 1, 1, none⟩ = some (nilS) := R7.cell 1 (by simp)
              have y72 : w7.cell? ⟨w.heap.size + 1 + 1, 2, none⟩ = some (.slice b2 n2 k2) := hO7.cell 2 (by simp)
              have r72 : w7.cell? ⟨w.heap.size + 1, 2, none⟩ = some (nilS) := R7.cell 2 (by simp)
              have y73 : w7.cell? ⟨w.heap.size + 1 + 1, 3, none⟩ = some (.map (some bN)) := hO7.cell 3 (by simp)
              have r73 : w7.cell? ⟨w.heap.size + 1, 3, none⟩ = some (.map none) := R7.cell 3 (by simp)
              have y74 : w7.cell? ⟨w.heap.size + 1 + 1, 4, none⟩ = some (.map (some bW)) := hO7.cell 4 (by simp)
              have r74 : w7.cell? ⟨w.heap.size + 1, 4, none⟩ = some (.map none) := R7.cell 4 (by simp)
              have f7 := R7.free
              have hN7 := hN5.bel nRecE hb7
              have hW7 := hW5.bel wRecE hb7
              have hA7 := hA5.bel aRecE hb7
              have hMN7 := hMN5.bel hb7
              have hMW7 := hMW5.bel hb7
              clear hb7 hO5 R5 hN5 hW5 hA5 hMN5 hMW5 y50 y51 y52 y53 y54 hO7 R7 hB5
              cases hp : bP (ChartP ns ws rs n0 n1 n2)
              · go_wp2
                refine bodyPost_ret (v := .tuple #[chZ, .bool false]) (by simp [results, Tryz.results32, go_sem, r70, r71, r72, r73, r74]) rfl (.inr ⟨hp, rfl, ?_⟩)
                (with_reducible repeat (first | exact hB7 | refine bel_set ?_ ?_ _)) <;> simp <;> omega
              · have hG : ∀ W, w7.grownBy W (some (w.heap.size + 1)) → Bel w W → NRecs W b0 ns q0 ∧ WRecs W b1 ws q1 ∧ ARecs W b2 rs q2 ∧ MapAt W bN n0 (plc (nId ns) n0) ∧ MapAt W bW n1 (plc (wId ws) n1) ∧ Bel w W := fun W h hb => ⟨hN7.grown nRecE h hd0, hW7.grown wRecE h hd1, hA7.grown aRecE h hd2, hMN7.grown h (by omega), hMW7.grown h (by omega), hb⟩
                clear hN7 hW7 hA7 hMN7 hMW7
                go_wp2
                refine bodyPost_ret (v := .tuple #[chV b0 n0 k0 b1 n1 k1 b2 n2 k2 bN bW, .bool true]) (by simp [results, Tryz.results32, go_sem, r70, r71, r72, r73, r74]) rfl (.inl ⟨hp, b0, k0, b1, k1, b2, k2, bN, bW, q0, q1, q2, rfl, hG _ ?_ ?_⟩)
                · with_reducible repeat (first | exact World.grownBy.refl _ _ | refine grown_set ?_ _ _)
                · (with_reducible repeat (first | exact hB7 | refine bel_set ?_ ?_ _)) <;> simp <;> omega
end Go.Proofs.YtmmapkpieimibaaGreat
