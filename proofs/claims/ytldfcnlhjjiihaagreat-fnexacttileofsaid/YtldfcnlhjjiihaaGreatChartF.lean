/-
  Contracts of the making of a chart and of MapOk: for every map.
-/
import Derived.Test.YtldfcnlhjjiihaaGreatGE
namespace Go.Proofs.YtldfcnlhjjiihaaGreat
open Go.RowKit Go.Maps

theorem mapB_big {m : MapD} (h : ¬ (m.nodes.length ≤ 5000 ∧ m.ways.length ≤ 1000 ∧ m.areas.length ≤ 300)) : mapB m = false := bP_false fun hh => h ⟨hh.n1, hh.n2, hh.n3⟩
theorem mapB_chart {m : MapD} (h1 : m.nodes.length ≤ 5000) (h2 : m.ways.length ≤ 1000) (h3 : m.areas.length ≤ 300) : bP (ChartP m.nodes m.ways m.areas m.nodes.length m.ways.length m.areas.length) = mapB m := by
 cases h : mapB m
 ·exact bP_false fun hc => bP_not h ⟨h1, h2, h3, hc.b1, hc.b2, hc.b3, hc.b4, hc.b5, hc.b6⟩
 ·have hm := bP_out h
  exact bP_true ⟨hm.an, hm.aw, hm.aa, hm.pl, hm.wy, hm.ar⟩

/-- A map as a value, in memory; its lists are not too long to be gone through. -/
structure MapV (w : World) (v : Value) (m : MapD) (bs : List Nat) : Prop where
 mk ::
 out : ∃ a0 c0 a1 c1 a2 c2 b0 b1 b2, v = .agg #[.slice a0 m.nodes.length c0, .slice a1 m.ways.length c1, .slice a2 m.areas.length c2] ∧ bs = b0 ++ (b1 ++ b2) ∧ Nodes w a0 m.nodes b0 ∧ Ways w a1 m.ways b1 ∧ Areas w a2 m.areas b2
/-- Its lists are not too long. -/
structure MapL (m : MapD) : Prop where
 l0 : m.nodes.length ≤ 1048576
 l1 : m.ways.length ≤ 1048576
 l2 : m.areas.length ≤ 1048576
 u0 : ∀ i (h : i < m.nodes.length), m.nodes[i].tags.length ≤ 1048576
 u1 : ∀ i (h : i < m.ways.length), m.ways[i].nodes.length ≤ 1048576 ∧ m.ways[i].tags.length ≤ 1048576
 u2 : ∀ i (h : i < m.areas.length), m.areas[i].parts.length ≤ 1048576 ∧ m.areas[i].tags.length ≤ 1048576
theorem MapV.bel {w w' : World} {v : Value} {m : MapD} {bs : List Nat} (h : MapV w v m bs) (hb : Bel w w') : MapV w' v m bs := by
 obtain ⟨a0, c0, a1, c1, a2, c2, b0, b1, b2, h0, h1, h2, h3, h4⟩ := h.out
 exact ⟨a0, c0, a1, c1, a2, c2, b0, b1, b2, h0, h1, h2.bel nodeE hb, h3.bel wayE hb, h4.bel areaE hb⟩

theorem chartOf_any (v : Value) (m : MapD) (bs : List Nat) (w : World) (hV : MapV w v m bs) (hL : MapL m) :
  Calls Tryz.prog 26 #[v] w fun e w' => (mapB m = true ∧ ∃ b0 k0 b1 k1 b2 k2 bN bW q0 q1 q2, e = .returned (.tuple #[chV b0 m.nodes.length k0 b1 m.ways.length k1 b2 m.areas.length k2 bN bW, .bool true]) ∧ NRecs w' b0 m.nodes q0 ∧ WRecs w' b1 m.ways q1 ∧ ARecs w' b2 m.areas q2 ∧ MapAt w' bN m.nodes.length (plc (nId m.nodes) m.nodes.length) ∧ MapAt w' bW m.ways.length (plc (wId m.ways) m.ways.length) ∧ Bel w w') ∨
   (mapB m = false ∧ e = .returned (.tuple #[chZ, .bool false]) ∧ Bel w w') := by
 obtain ⟨a0, c0, a1, c1, a2, c2, b0, b1, b2, rfl, rfl, t0, t1, t2⟩ := hV.out
 by_cases hn : m.nodes.length ≤ 5000 ∧ m.ways.length ≤ 1000 ∧ m.areas.length ≤ 300
 ·rw [← mapB_chart hn.1 hn.2.1 hn.2.2]
  exact chartOf_yes _ _ _ _ _ _ _ _ _ _ _ _ _ _ _ _ t0 rfl hn.1 t1 rfl hn.2.1 t2 rfl hn.2.2 hL.u0 hL.u1 hL.u2
 ·have HF : Hid (mapB m = false) := mapB_big hn
  obtain ⟨l0, l1, l2, _, _, _⟩ := hL
  obtain ⟨n0, hn0⟩ : ∃ n, m.nodes.length = n := ⟨_, rfl⟩
  obtain ⟨n1, hn1⟩ : ∃ n, m.ways.length = n := ⟨_, rfl⟩
  obtain ⟨n2, hn2⟩ : ∃ n, m.areas.length = n := ⟨_, rfl⟩
  rw [hn0, hn1, hn2] at hn ⊢
  rw [hn0] at l0
  rw [hn1] at l1
  rw [hn2] at l2
  clear t0 t1 t2 hn0 hn1 hn2 hV
  by_cases h0 : n0 ≤ 5000
  ·by_cases h1 : n1 ≤ 1000
   ·have h2 : ¬ n2 ≤ 300 := fun h => hn ⟨h0, h1, h⟩
    clear hn
    go_enter Tryz.func26, Tryz.ntmps26
    go_wp2
    exact bodyPost_ret (v := .tuple #[chZ, .bool false]) (by simp [results, Tryz.results26, go_sem]) rfl (.inr ⟨HF.out, rfl, bel_alloc (bel_alloc (Bel.refl _) _) _⟩)
   ·clear hn
    go_enter Tryz.func26, Tryz.ntmps26
    go_wp2
    exact bodyPost_ret (v := .tuple #[chZ, .bool false]) (by simp [results, Tryz.results26, go_sem]) rfl (.inr ⟨HF.out, rfl, bel_alloc (bel_alloc (Bel.refl _) _) _⟩)
  ·clear hn
   go_enter Tryz.func26, Tryz.ntmps26
   go_wp2
   exact bodyPost_ret (v := .tuple #[chZ, .bool false]) (by simp [results, Tryz.results26, go_sem]) rfl (.inr ⟨HF.out, rfl, bel_alloc (bel_alloc (Bel.refl _) _) _⟩)

end Go.Proofs.YtldfcnlhjjiihaaGreat
