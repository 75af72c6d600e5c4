/-
  The place of a node that is there, in the document's model.
  The points of a way, in the document's model: the contract.
-/
import Derived.Test.YtldfcnlhjjiihaaGreatKD
import Derived.Deep.AppendLies
import Derived.Deep.RegionHeld3
namespace Go.Proofs.YtldfcnlhjjiihaaGreat
open Go.RowKit Go.Maps
theorem l2Node_at (v : Value) (m : MapD) (bs : List Nat) (x : Int) (j : Nat) (w : World) (hV : MapV w v m bs) (hl : m.nodes.length ≤ 5000) (hA : AscP m.nodes.length (nId m.nodes) (nTg m.nodes)) (hj : posI (nId m.nodes) m.nodes.length x = (j : Int)) :
  Calls Tryz.prog 48 #[v, .int .i64 x] w fun e w' => e = .returned (.int .i64 (j : Int)) ∧ Bel w w' := by
 rw [← hj]
 exact l2Node_any v m bs x w hV hl hA
end Go.Proofs.YtldfcnlhjjiihaaGreat

namespace Go.Proofs.YtldfcnlhjjiihaaGreat
open Go.RowKit Go.Maps

set_option maxRecDepth 100000 in
set_option maxHeartbeats 4000000 in
theorem l2Row_any (v : Value) (m : MapD) (bs : List Nat) (id : Int) (an : Option Addr) (n3 cn : Nat) (at' : Option Addr) (nt ct : Nat) (ns : List Int) (bs1 : List Nat) (base : Nat) (w : World) (hbase : base ≤ w.heap.size)
  (hV : MapV w v m bs) (hI : Ints w an ns bs1) (hn : ns.length = n3) (hm : n3 ≤ 2000) (hl : m.nodes.length ≤ 5000) (hA : AscP m.nodes.length (nId m.nodes) (nTg m.nodes)) (hh : ∀ j (h : j < ns.length), HasI m.nodes.length (nId m.nodes) ns[j]) :
  Calls Tryz.prog 20 #[v, .agg #[.int .i64 id, .slice an n3 cn, .slice at' nt ct]] w fun e w' => ∃ v', e = .returned v' ∧ OutP base w' v' (rowTo m.nodes ns n3) ∧ Bel w w' := by
 obtain ⟨i0, hi0, hz0, hz1, hz2⟩ := info_parts infoP
 obtain ⟨a0, c0, a1, c1, a2, c2, b0, b1, b2, hv, hbs, t0, t1, t2⟩ := hV.out
 have HN1 : Hid (ns.length = n3) := hn
 have hl0 : Hid (m.nodes.length ≤ 5000) := hl
 have HA : Hid (AscP m.nodes.length (nId m.nodes) (nTg m.nodes)) := hA
 have HH : Hid (∀ j (h : j < ns.length), HasI m.nodes.length (nId m.nodes) ns[j]) := hh
 obtain ⟨n0, hn0⟩ : ∃ n, m.nodes.length = n := ⟨_, rfl⟩
 obtain ⟨n1, hn1⟩ : ∃ n, m.ways.length = n := ⟨_, rfl⟩
 obtain ⟨n2, hn2⟩ : ∃ n, m.areas.length = n := ⟨_, rfl⟩
 have H0 : Hid (m.nodes.length = n0) := hn0
 rw [hn0, hn1, hn2] at hv
 subst hv
 obtain ⟨W, HW⟩ : ∃ W, Hid (W = (w.alloc (.cells #[.slice a0 n0 c0, .slice a1 n1 c1, .slice a2 n2 c2] 39)).alloc (.cells #[.int .i64 id, .slice an n3 cn, .slice at' nt ct] 59)) := ⟨_, (rfl : (w.alloc (.cells #[.slice a0 n0 c0, .slice a1 n1 c1, .slice a2 n2 c2] 39)).alloc (.cells #[.int .i64 id, .slice an n3 cn, .slice at' nt ct] 59) = _)⟩
 have hB : Bel w W := by rw [HW.out]; exact bel_alloc (bel_alloc (Bel.refl _) _) _
 have X0 : Blk W w.heap.size [.slice a0 n0 c0, .slice a1 n1 c1, .slice a2 n2 c2] := by rw [HW.out]; exact (Blk.new w [.slice a0 n0 c0, .slice a1 n1 c1, .slice a2 n2 c2] _).bel (bel_alloc (Bel.refl _) _)
 have X1 : Blk W (w.heap.size + 1) [.int .i64 id, .slice an n3 cn, .slice at' nt ct] := by rw [HW.out]; exact Blk.new1 w _ [.int .i64 id, .slice an n3 cn, .slice at' nt ct] _
 have hWs : W.heap.size = w.heap.size + 1 + 1 := by rw [HW.out]; simp
 have O0 : OwnP W.heap.size (W.alloc (.cells #[] 61)) (.slice (some ⟨w.heap.size + 1 + 1, 0, none⟩) 0 0) (rowTo m.nodes ns 0) := by rw [← hWs]; exact World.ownsRow_lit W #[] 0 (Nat.le_refl _) (Nat.zero_le _) rfl
 have hBa : Bel W (W.alloc (.cells #[] 61)) := bel_alloc (Bel.refl _) _
 have HV : Hid (MapV W (.agg #[.slice a0 n0 c0, .slice a1 n1 c1, .slice a2 n2 c2]) m bs) := hV.bel hB
 obtain ⟨AN, CN, fN, _, hN⟩ := name_nodes (t0.bel nodeE hB)
 have HN : Hid _ := hN
 have HI : Hid (Ints W an ns bs1) := hI.bel intE hB
 clear hN hV hI hn hl hA hh t0 t1 t2 hbs hn0 hn1 hn2
 go_enter Tryz.func20, Tryz.ntmps20
 go_wp2
 rw [← HW.out]
 go_loopw [5, 6] (fun o i wr => ∃ k : Nat, k ≤ n3 ∧ i = .int .i64 k ∧ OwnP W.heap.size wr o (rowTo m.nodes ns k) ∧ Bel W wr) (fun _ i _ => n3 - (intOf i).toNat)
 case atStart => exact ⟨0, Nat.zero_le _, rfl, O0, hBa⟩
 case round =>
  clear O0 hBa
  obtain ⟨k, hk, rfl, hown, hBr⟩ := hrel
  have HOl : Hid (OwnP W.heap.size wr _ (rowTo m.nodes ns k)) := hown
  have hlen : (rowTo m.nodes ns k).length = k := rowTo_len (by rw [HN1.out]; exact hk)
  unfold OwnP at hown
  rw [hlen] at hown
  obtain ⟨va, vc, rfl⟩ := own_shape hown
  have y1 : wr.cell? ⟨w.heap.size + 1, 1, none⟩ = some (.slice an n3 cn) := (X1.bel hBr).cell 1 (by simp)
  by_cases hlt : k < n3
  ·have hkl : k < ns.length := by rw [HN1.out]; exact hlt
   obtain ⟨b', off', f', rfl, hb', hx'⟩ := HI.out.out hkl
   obtain ⟨_, _, cx⟩ := hx' k hkl
   rw [Nat.mul_one] at cx
   obtain ⟨j0, hj0, hI0⟩ := HH.out k hkl
   obtain ⟨x, Hx⟩ : ∃ x, Hid (x = ns[k]) := ⟨_, (rfl : ns[k] = _)⟩
   rw [← Hx.out] at cx hI0
   have HP0 : Hid (posI (nId m.nodes) m.nodes.length x = (j0 : Int)) := by rw [← hI0]; exact posI_at HA.out hj0
   have HPt : Hid (ptI m.nodes x = ⟨m.nodes[j0].x, m.nodes[j0].y⟩) := ptI_at HA.out hj0 hI0
   obtain ⟨b, off, rfl, hb, _, _, _, _, ex, ey, _⟩ := HN.out j0 hj0
   obtain ⟨d, Hd⟩ : ∃ d, Hid (d = m.nodes[j0]) := ⟨_, (rfl : m.nodes[j0] = _)⟩
   rw [← Hd.out] at ex ey HPt
   have hj1 : (j0 : Int) < (n0 : Int) := by have := H0.out; omega
   have hlt' : (k : Int) < (n3 : Int) := by omega
   obtain ⟨L, HLq⟩ : ∃ L, Hid (L = rowTo m.nodes ns k) := ⟨_, (rfl : rowTo m.nodes ns k = _)⟩
   rw [← HLq.out] at hown
   have HO : Hid (wr.ownsRow W.heap.size 61 2 (.slice va k vc) k (ptsV L)) := hown
   have HE : Hid (∀ w7 v7, w7.ownsRow W.heap.size 61 2 v7 (k + 1) (ptsV L ++ [.int .i64 d.x, .int .i64 d.y]) → OwnP W.heap.size w7 v7 (rowTo m.nodes ns (k + 1))) := fun w7 v7 h => by
    rw [rowTo_succ hkl, ← HLq.out, ← Hx.out, HPt.out]
    refine ownp_add (d := ⟨d.x, d.y⟩) ?_
    rw [HLq.out, hlen, ← HLq.out]
    exact h
   have hR : ∀ w', Bel W w' → w'.cell? ⟨w.heap.size, 0, none⟩ = some (.slice (some ⟨b, off, none⟩) n0 c0) ∧ w'.cell? ⟨w.heap.size, 1, none⟩ = some (.slice a1 n1 c1) ∧ w'.cell? ⟨w.heap.size, 2, none⟩ = some (.slice a2 n2 c2) ∧ w'.cell? ⟨w.heap.size + 1, 1, none⟩ = some (.slice (some ⟨b', off', none⟩) n3 cn) ∧ w'.cell? ⟨b', off' + k, none⟩ = some (.int .i64 x) ∧ w'.cell? ⟨b, off + j0 * 4 + 1, none⟩ = some (.int .i64 d.x) ∧ w'.cell? ⟨b, off + j0 * 4 + 2, none⟩ = some (.int .i64 d.y) :=
    fun w' h => ⟨(X0.bel h).cell 0 (by simp), (X0.bel h).cell 1 (by simp), (X0.bel h).cell 2 (by simp), (X1.bel h).cell 1 (by simp), bel_cellM h hb' cx, bel_cellM h hb ex, bel_cellM h hb ey⟩
   have hMV : ∀ w', Bel W w' → MapV w' (.agg #[.slice (some ⟨b, off, none⟩) n0 c0, .slice a1 n1 c1, .slice a2 n2 c2]) m bs := fun w' h => HV.out.bel h
   have hsW := hBr.out.size
   clear hx' cx ex ey hown hlen HOl hI0
   go_wp2
   go_region_held3 (fun w' => Bel W w') (with_reducible (repeat (first | assumption | refine Bel.drew ?_ | refine bel_alloc ?_ _ | refine bel_then (by assumption) ?_)))
    (first
     | (go_at_call 48; refine (l2Node_at _ m bs _ j0 _ (hMV _ (by assumption)) hl0.out HA.out HP0.out).mono ?_; rintro e w6 ⟨rfl, hb6⟩; refine (fun hk6 : Bel wr w6 => ?_) (bel_step (by with_reducible (repeat (first | exact Bel.refl _ | refine Bel.drew ?_))) hb6))
     | (refine step_append_lies _ (by rfl) _ _ _ (by rfl) W.heap.size 61 i0 _ 2 16 Tryz.underlying54 hi0 hz0 hz1 hz2 rfl (by decide) (.slice va k vc) k (ptsV L) (by rfl) (own_bel HO.out (bel_step hk6 (by with_reducible (repeat (first | exact Bel.refl _ | refine Bel.drew ?_ | refine bel_alloc ?_ _))))) ⟨w6.heap.size, 0, none⟩ 1 1 [.int .i64 d.x, .int .i64 d.y] (by rfl) (by rfl) (World.news_of_block (cs := #[.int .i64 d.x, .int .i64 d.y]) (t := 61) (fr := (0, 0)) (heap_alloc_new w6 _)) (by simp [Value.oneCell']) (by omega) (by unfold maxLen; omega) (by omega) (by have := hk6.out.size; simp; omega) (w6.heap.size + 1) (by simp) ?_; intro g cap w7 hown7 hgrow _ _; refine (fun hk7 : Bel W w7 => ?_) (bel_grow (by assumption) hgrow (fun j e => (HO.out.lt j e).1))))
   have hF : Bel W w7 := by assumption
   have HO7 : Hid (OwnP W.heap.size w7 (.slice (some ⟨g, 0, none⟩) (k + 1) cap) (rowTo m.nodes ns (k + 1))) := HE.out _ _ hown7
   clear hown7 hgrow hR hMV HE HO
   go_wp2
   go_roundw
   case rel => exact ⟨k + 1, by omega, by go_num, HO7.out, hF⟩
   case measure => simp [intOf]; omega
  ·have e : n3 = k := by omega
   subst e
   have HOut : Hid (OutP base wr (.slice va n3 vc) (rowTo m.nodes ns n3)) := by
    refine OutP.base (own_out HOl.out fun d hd => ?_) (show base ≤ W.heap.size by omega)
    obtain ⟨y, hy, rfl⟩ := List.mem_map.1 hd
    have hy := List.mem_of_mem_take hy
    obtain ⟨j, hj, rfl⟩ := List.mem_iff_getElem.1 hy
    obtain ⟨j0, hj0, hI0⟩ := HH.out j hj
    rw [ptI_at HA.out hj0 hI0]
    obtain ⟨_, _, _, _, _, i2, i3, _⟩ := HN.out j0 hj0
    exact ⟨i2, i3⟩
   clear hown HOl
   go_wp2
   go_ret
   exact ⟨_, rfl, HOut.out, bel_step hB hBr⟩
end Go.Proofs.YtldfcnlhjjiihaaGreat
