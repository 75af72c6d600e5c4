/-
  What is drawn of a tile, in the program: contract.
-/
import Derived.Test.YtldfcnlhjjiihaaGreatKH
namespace Go.Proofs.YtldfcnlhjjiihaaGreat
open Go.RowKit Go.Maps

set_option maxRecDepth 100000 in
set_option maxHeartbeats 8000000 in
theorem tileOf_any (v : Value) (m : MapD) (bs : List Nat) (z x y : Int) (w : World) (hV : MapV w v m bs) (hL : MapL m) :
  Calls Tryz.prog 8 #[v, til z x y] w fun e w' => ∃ v' bs', e = .returned v' ∧ TdtV w' v' (tdtQ m ⟨z, x, y⟩) bs' ∧ Fresh w w' bs' ∧ Bel w w' := by
 have hV' := hV
 obtain ⟨a0, c0, a1, c1, a2, c2, b0, b1, b2, rfl, _, _, _, _⟩ := hV.out
 clear hV
 obtain ⟨n0, hn0⟩ : ∃ n, m.nodes.length = n := ⟨_, rfl⟩
 obtain ⟨n1, hn1⟩ : ∃ n, m.ways.length = n := ⟨_, rfl⟩
 obtain ⟨n2, hn2⟩ : ∃ n, m.areas.length = n := ⟨_, rfl⟩
 rw [hn0, hn1, hn2] at hV' ⊢
 clear hn0 hn1 hn2
 have hle2 : w.heap.size ≤ w.heap.size + 1 + 1 := by omega
 obtain ⟨W, HW⟩ : ∃ W, Hid (W = ((w.alloc (.cells #[.slice a0 n0 c0, .slice a1 n1 c1, .slice a2 n2 c2] 39)).alloc (.cells #[.int .i64 z, .int .i64 x, .int .i64 y] 30)).alloc (.cells #[.int .i64 0, .int .i64 0, .int .i64 0, .slice none 0 0] 33)) := ⟨_, (rfl : ((w.alloc (.cells #[.slice a0 n0 c0, .slice a1 n1 c1, .slice a2 n2 c2] 39)).alloc (.cells #[.int .i64 z, .int .i64 x, .int .i64 y] 30)).alloc (.cells #[.int .i64 0, .int .i64 0, .int .i64 0, .slice none 0 0] 33) = _)⟩
 have hBW : Bel w W := by rw [HW.out]; exact bel_alloc (bel_alloc (bel_alloc (Bel.refl _) _) _) _
 have XM : Blk W w.heap.size [.slice a0 n0 c0, .slice a1 n1 c1, .slice a2 n2 c2] := by rw [HW.out]; exact ((Blk.new w [.slice a0 n0 c0, .slice a1 n1 c1, .slice a2 n2 c2] _).bel (bel_alloc (Bel.refl _) _)).bel (bel_alloc (Bel.refl _) _)
 have XT : Hid (Blk W (w.heap.size + 1) [.int .i64 z, .int .i64 x, .int .i64 y]) := by rw [HW.out]; exact (Blk.new1 w _ [.int .i64 z, .int .i64 x, .int .i64 y] _).bel (bel_alloc (Bel.refl _) _)
 have XR : Hid (Blk W (w.heap.size + 1 + 1) [.int .i64 0, .int .i64 0, .int .i64 0, .slice none 0 0]) := by rw [HW.out]; exact Blk.new2 w _ _ [.int .i64 0, .int .i64 0, .int .i64 0, .slice none 0 0] _
 have x0 : W.cell? ⟨w.heap.size, 0, none⟩ = some (.slice a0 n0 c0) := XM.cell 0 (by simp)
 have x1 : W.cell? ⟨w.heap.size, 1, none⟩ = some (.slice a1 n1 c1) := XM.cell 1 (by simp)
 have x2 : W.cell? ⟨w.heap.size, 2, none⟩ = some (.slice a2 n2 c2) := XM.cell 2 (by simp)
 have xl := XM.lt
 go_enter Tryz.func8, Tryz.ntmps8
 go_upto_region 1 with fail
 rw [← HW.out]
 clear HW XM
 go_wp2_with fail
 refine (chartOf_any _ m bs _ (hV'.bel hBW) hL).mono ?_
 rintro e w1 (⟨hm, d0, k0, d1, k1, d2, k2, bN, bW, q0, q1, q2, rfl, hN, hR, _, hMN, _, hb⟩ | ⟨hm, rfl, hb⟩)
 rotate_left
 ·clear x0 x1 x2 xl
  have hb2 := bel_alloc hb (.cells #[.slice none 0 0, .slice none 0 0, .slice none 0 0, .map none, .map none] 76)
  have HZ : Hid (tdtQ m ⟨z, x, y⟩ = ⟨⟨0, 0, 0⟩, []⟩) := (by unfold tdtQ; exact if_neg (by rw [hm]; simp) : tdtQ m ⟨z, x, y⟩ = ⟨⟨0, 0, 0⟩, []⟩)
  have XE := XR.out.bel (hb2)
  have r0 : (w1.alloc (.cells #[.slice none 0 0, .slice none 0 0, .slice none 0 0, .map none, .map none] 76)).cell? ⟨w.heap.size + 1 + 1, 0, none⟩ = some (.int .i64 0) := XE.cell 0 (by simp)
  have r1 : (w1.alloc (.cells #[.slice none 0 0, .slice none 0 0, .slice none 0 0, .map none, .map none] 76)).cell? ⟨w.heap.size + 1 + 1, 1, none⟩ = some (.int .i64 0) := XE.cell 1 (by simp)
  have r2 : (w1.alloc (.cells #[.slice none 0 0, .slice none 0 0, .slice none 0 0, .map none, .map none] 76)).cell? ⟨w.heap.size + 1 + 1, 2, none⟩ = some (.int .i64 0) := XE.cell 2 (by simp)
  have r3 : (w1.alloc (.cells #[.slice none 0 0, .slice none 0 0, .slice none 0 0, .map none, .map none] 76)).cell? ⟨w.heap.size + 1 + 1, 3, none⟩ = some (.slice none 0 0) := XE.cell 3 (by simp)
  have rf := XE.free
  have rl := XE.lt
  have hBZ : Bel w (w1.alloc (.cells #[.slice none 0 0, .slice none 0 0, .slice none 0 0, .map none, .map none] 76)) := bel_step hBW (hb2)
  clear XE
  go_wp2
  refine bodyPost_ret (v := .agg #[.int .i64 0, .int .i64 0, .int .i64 0, .slice none 0 0]) (by simp [results, Tryz.results8, go_sem, r0, r1, r2, r3]) rfl ⟨_, [], rfl, (by rw [HZ.out]; exact ⟨none, 0, rfl, Sl.nil⟩), Fresh.nil _ _, ?_⟩
  exact bel_set (bel_set (bel_set (bel_set hBZ hle2 _) hle2 _) hle2 _) hle2 _
 ·clear x0 x1 x2 xl
  obtain ⟨V, HVq⟩ : ∃ V, Hid (V = w1.alloc (.cells #[.slice d0 m.nodes.length k0, .slice d1 m.ways.length k1, .slice d2 m.areas.length k2, .map (some bN), .map (some bW)] 76)) := ⟨_, (rfl : w1.alloc (.cells #[.slice d0 m.nodes.length k0, .slice d1 m.ways.length k1, .slice d2 m.areas.length k2, .map (some bN), .map (some bW)] 76) = _)⟩
  have hb1V : Bel w1 V := by rw [HVq.out]; exact bel_alloc (Bel.refl _) _
  have XC : Blk V w1.heap.size [.slice d0 m.nodes.length k0, .slice d1 m.ways.length k1, .slice d2 m.areas.length k2, .map (some bN), .map (some bW)] := by rw [HVq.out]; exact Blk.new w1 [.slice d0 m.nodes.length k0, .slice d1 m.ways.length k1, .slice d2 m.areas.length k2, .map (some bN), .map (some bW)] _
  have hWV : Bel W V := bel_step hb hb1V
  have hBW1 : w.heap.size + 1 + 1 < w1.heap.size := (XR.out.bel hb).lt
  obtain ⟨B, HB⟩ : ∃ n, Hid (w1.heap.size = n) := ⟨_, (rfl : w1.heap.size = _)⟩
  have XTV := XT.out.bel hWV
  have t0 : V.cell? ⟨w.heap.size + 1, 0, none⟩ = some (.int .i64 z) := XTV.cell 0 (by simp)
  have t1 : V.cell? ⟨w.heap.size + 1, 1, none⟩ = some (.int .i64 x) := XTV.cell 1 (by simp)
  have t2 : V.cell? ⟨w.heap.size + 1, 2, none⟩ = some (.int .i64 y) := XTV.cell 2 (by simp)
  have tl := XTV.lt
  rw [HB.out] at XC hBW1
  go_upto_region 2 with fail
  rw [← HVq.out, HB.out]
  clear HVq XTV
  go_wp2_with fail
  refine (tileOk_any z x y _).mono ?_
  rintro e w2 ⟨rfl, hb2⟩
  have hV2 : Bel W w2 := bel_step hWV hb2
  clear t0 t1 t2 tl
  rcases Bool.eq_false_or_eq_true (tilB z x y) with ht | ht
  rotate_left
  ·rw [ht]
   have HZ : Hid (tdtQ m ⟨z, x, y⟩ = ⟨⟨0, 0, 0⟩, []⟩) := (by unfold tdtQ; exact if_neg (by rw [hm, ht]; simp) : tdtQ m ⟨z, x, y⟩ = ⟨⟨0, 0, 0⟩, []⟩)
   have XE := XR.out.bel (hV2)
   have r0 : w2.cell? ⟨w.heap.size + 1 + 1, 0, none⟩ = some (.int .i64 0) := XE.cell 0 (by simp)
   have r1 : w2.cell? ⟨w.heap.size + 1 + 1, 1, none⟩ = some (.int .i64 0) := XE.cell 1 (by simp)
   have r2 : w2.cell? ⟨w.heap.size + 1 + 1, 2, none⟩ = some (.int .i64 0) := XE.cell 2 (by simp)
   have r3 : w2.cell? ⟨w.heap.size + 1 + 1, 3, none⟩ = some (.slice none 0 0) := XE.cell 3 (by simp)
   have rf := XE.free
   have rl := XE.lt
   have hBZ : Bel w w2 := bel_step hBW (hV2)
   clear XE
   go_wp2
   refine bodyPost_ret (v := .agg #[.int .i64 0, .int .i64 0, .int .i64 0, .slice none 0 0]) (by simp [results, Tryz.results8, go_sem, r0, r1, r2, r3]) rfl ⟨_, [], rfl, (by rw [HZ.out]; exact ⟨none, 0, rfl, Sl.nil⟩), Fresh.nil _ _, ?_⟩
   exact bel_set (bel_set (bel_set (bel_set hBZ hle2 _) hle2 _) hle2 _) hle2 _
  rw [ht]
  have HYes : Hid (tdtQ m ⟨z, x, y⟩ = ⟨⟨z, x, y⟩, lnsQ m.nodes m.ways z x y⟩) := (by unfold tdtQ; exact if_pos (by rw [hm]; exact ht) : tdtQ m ⟨z, x, y⟩ = ⟨⟨z, x, y⟩, lnsQ m.nodes m.ways z x y⟩)
  have XC2 := XC.bel hb2
  have XT2 := XT.out.bel hV2
  have HSS : Hid (∀ w', Bel w2 w' → w'.cell? ⟨w.heap.size + 1, 0, none⟩ = some (.int .i64 z) ∧ w'.cell? ⟨w.heap.size + 1, 1, none⟩ = some (.int .i64 x) ∧ w'.cell? ⟨w.heap.size + 1, 2, none⟩ = some (.int .i64 y) ∧ w'.cell? ⟨B, 0, none⟩ = some (.slice d0 m.nodes.length k0) ∧ w'.cell? ⟨B, 1, none⟩ = some (.slice d1 m.ways.length k1) ∧ w'.cell? ⟨B, 2, none⟩ = some (.slice d2 m.areas.length k2) ∧ w'.cell? ⟨B, 3, none⟩ = some (.map (some bN)) ∧ w'.cell? ⟨B, 4, none⟩ = some (.map (some bW))) := fun w' h => ⟨(XT2.bel h).cell 0 (by simp), (XT2.bel h).cell 1 (by simp), (XT2.bel h).cell 2 (by simp), (XC2.bel h).cell 0 (by simp), (XC2.bel h).cell 1 (by simp), (XC2.bel h).cell 2 (by simp), (XC2.bel h).cell 3 (by simp), (XC2.bel h).cell 4 (by simp)⟩
  have g1 : (fun w' => w'.cell? ⟨w.heap.size + 1, 0, none⟩ = some (.int .i64 z) ∧ w'.cell? ⟨w.heap.size + 1, 1, none⟩ = some (.int .i64 x) ∧ w'.cell? ⟨w.heap.size + 1, 2, none⟩ = some (.int .i64 y) ∧ w'.cell? ⟨B, 0, none⟩ = some (.slice d0 m.nodes.length k0) ∧ w'.cell? ⟨B, 1, none⟩ = some (.slice d1 m.ways.length k1) ∧ w'.cell? ⟨B, 2, none⟩ = some (.slice d2 m.areas.length k2) ∧ w'.cell? ⟨B, 3, none⟩ = some (.map (some bN)) ∧ w'.cell? ⟨B, 4, none⟩ = some (.map (some bW))) w2.drew := HSS.out _ (Bel.refl _).drew
  have hV1 : Bel w1 w2 := bel_step hb1V hb2
  go_upto_region 4 with fail
  refine wp_region_noPanic ?_
  refine wp_region_held_drew (S := (fun w' => w'.cell? ⟨w.heap.size + 1, 0, none⟩ = some (.int .i64 z) ∧ w'.cell? ⟨w.heap.size + 1, 1, none⟩ = some (.int .i64 x) ∧ w'.cell? ⟨w.heap.size + 1, 2, none⟩ = some (.int .i64 y) ∧ w'.cell? ⟨B, 0, none⟩ = some (.slice d0 m.nodes.length k0) ∧ w'.cell? ⟨B, 1, none⟩ = some (.slice d1 m.ways.length k1) ∧ w'.cell? ⟨B, 2, none⟩ = some (.slice d2 m.areas.length k2) ∧ w'.cell? ⟨B, 3, none⟩ = some (.map (some bN)) ∧ w'.cell? ⟨B, 4, none⟩ = some (.map (some bW)))) (by kernel_rfl) g1 (fun hHeld => ?_)
  refine tk 0 hHeld ?_; refine tk 1 hHeld ?_; refine tk 2 hHeld ?_
  refine rd1 3 (fun K hK => ?_)
  go_simp
  refine (linesIn_any d0 _ k0 d1 _ k1 d2 _ k2 bN bW q0 q1 m z x y _ hm hL ht rfl rfl (hN.bel nRecE hV1.drew) (hR.bel wRecE hV1.drew) (hMN.bel hV1.drew)).mono ?_
  rintro e w3 ⟨a', c', bs', rfl, hS, hF, hb3⟩
  have h23 : Bel w2 w3 := bel_step (Bel.refl w2).drew hb3
  have hF2 : Fresh w2 w3 bs' := hF.old (Bel.refl w2).drew.out.size
  go_wp2_with fail
  refine hK.out _ _ (HSS.out _ h23) ?_; clear hK K hHeld; intro hHeld
  try simp only [Act.put, List.setIfInBounds_toArray, List.set_cons_zero, List.set_cons_succ]
  refine tk 4 hHeld ?_
  have XR3 := XR.out.bel (bel_step hV2 h23)
  have r0 : w3.cell? ⟨w.heap.size + 1 + 1, 0, none⟩ = some (.int .i64 0) := XR3.cell 0 (by simp)
  have r1 : w3.cell? ⟨w.heap.size + 1 + 1, 1, none⟩ = some (.int .i64 0) := XR3.cell 1 (by simp)
  have r2 : w3.cell? ⟨w.heap.size + 1 + 1, 2, none⟩ = some (.int .i64 0) := XR3.cell 2 (by simp)
  have r3 : w3.cell? ⟨w.heap.size + 1 + 1, 3, none⟩ = some (.slice none 0 0) := XR3.cell 3 (by simp)
  have rf := XR3.free
  have rl := XR3.lt
  have HFin : Hid (∀ u0 u1 u2 u3, (((((w3.setCell ⟨w.heap.size + 1 + 1, 0, none⟩ u0).setCell ⟨w.heap.size + 1 + 1, 1, none⟩ u1).setCell ⟨w.heap.size + 1 + 1, 2, none⟩ u2).setCell ⟨w.heap.size + 1 + 1, 3, none⟩ u3).cell? ⟨w.heap.size + 1, 0, none⟩ = some (.int .i64 z) ∧ ((((w3.setCell ⟨w.heap.size + 1 + 1, 0, none⟩ u0).setCell ⟨w.heap.size + 1 + 1, 1, none⟩ u1).setCell ⟨w.heap.size + 1 + 1, 2, none⟩ u2).setCell ⟨w.heap.size + 1 + 1, 3, none⟩ u3).cell? ⟨w.heap.size + 1, 1, none⟩ = some (.int .i64 x) ∧ ((((w3.setCell ⟨w.heap.size + 1 + 1, 0, none⟩ u0).setCell ⟨w.heap.size + 1 + 1, 1, none⟩ u1).setCell ⟨w.heap.size + 1 + 1, 2, none⟩ u2).setCell ⟨w.heap.size + 1 + 1, 3, none⟩ u3).cell? ⟨w.heap.size + 1, 2, none⟩ = some (.int .i64 y) ∧ ((((w3.setCell ⟨w.heap.size + 1 + 1, 0, none⟩ u0).setCell ⟨w.heap.size + 1 + 1, 1, none⟩ u1).setCell ⟨w.heap.size + 1 + 1, 2, none⟩ u2).setCell ⟨w.heap.size + 1 + 1, 3, none⟩ u3).cell? ⟨B, 0, none⟩ = some (.slice d0 m.nodes.length k0) ∧ ((((w3.setCell ⟨w.heap.size + 1 + 1, 0, none⟩ u0).setCell ⟨w.heap.size + 1 + 1, 1, none⟩ u1).setCell ⟨w.heap.size + 1 + 1, 2, none⟩ u2).setCell ⟨w.heap.size + 1 + 1, 3, none⟩ u3).cell? ⟨B, 1, none⟩ = some (.slice d1 m.ways.length k1) ∧ ((((w3.setCell ⟨w.heap.size + 1 + 1, 0, none⟩ u0).setCell ⟨w.heap.size + 1 + 1, 1, none⟩ u1).setCell ⟨w.heap.size + 1 + 1, 2, none⟩ u2).setCell ⟨w.heap.size + 1 + 1, 3, none⟩ u3).cell? ⟨B, 2, none⟩ = some (.slice d2 m.areas.length k2) ∧ ((((w3.setCell ⟨w.heap.size + 1 + 1, 0, none⟩ u0).setCell ⟨w.heap.size + 1 + 1, 1, none⟩ u1).setCell ⟨w.heap.size + 1 + 1, 2, none⟩ u2).setCell ⟨w.heap.size + 1 + 1, 3, none⟩ u3).cell? ⟨B, 3, none⟩ = some (.map (some bN)) ∧ ((((w3.setCell ⟨w.heap.size + 1 + 1, 0, none⟩ u0).setCell ⟨w.heap.size + 1 + 1, 1, none⟩ u1).setCell ⟨w.heap.size + 1 + 1, 2, none⟩ u2).setCell ⟨w.heap.size + 1 + 1, 3, none⟩ u3).cell? ⟨B, 4, none⟩ = some (.map (some bW))) ∧ LneL ((((w3.setCell ⟨w.heap.size + 1 + 1, 0, none⟩ u0).setCell ⟨w.heap.size + 1 + 1, 1, none⟩ u1).setCell ⟨w.heap.size + 1 + 1, 2, none⟩ u2).setCell ⟨w.heap.size + 1 + 1, 3, none⟩ u3) a' (lnsQ m.nodes m.ways z x y) bs' ∧ Fresh w ((((w3.setCell ⟨w.heap.size + 1 + 1, 0, none⟩ u0).setCell ⟨w.heap.size + 1 + 1, 1, none⟩ u1).setCell ⟨w.heap.size + 1 + 1, 2, none⟩ u2).setCell ⟨w.heap.size + 1 + 1, 3, none⟩ u3) bs' ∧ Bel w ((((w3.setCell ⟨w.heap.size + 1 + 1, 0, none⟩ u0).setCell ⟨w.heap.size + 1 + 1, 1, none⟩ u1).setCell ⟨w.heap.size + 1 + 1, 2, none⟩ u2).setCell ⟨w.heap.size + 1 + 1, 3, none⟩ u3)) := fun u0 u1 u2 u3 => by
   have hW3 : Bel w w3 := bel_step hBW (bel_step hV2 h23)
   have hno : w.heap.size + 1 + 1 ∉ bs' := fun h => by have := (hF2.new _ h).1; have := hV1.out.size; have := HB.out; omega
   have hA : Alike w3 ((((w3.setCell ⟨w.heap.size + 1 + 1, 0, none⟩ u0).setCell ⟨w.heap.size + 1 + 1, 1, none⟩ u1).setCell ⟨w.heap.size + 1 + 1, 2, none⟩ u2).setCell ⟨w.heap.size + 1 + 1, 3, none⟩ u3) bs' := ((((Alike.refl (hS.lt lneE)).set hno _ _).set hno _ _).set hno _ _).set hno _ _
   have YT := (((((XT2.bel h23).far (B' := w.heap.size + 1 + 1) (i := 0) (v := u0) (by omega)).far (B' := w.heap.size + 1 + 1) (i := 1) (v := u1) (by omega)).far (B' := w.heap.size + 1 + 1) (i := 2) (v := u2) (by omega)).far (B' := w.heap.size + 1 + 1) (i := 3) (v := u3) (by omega))
   have YC := (((((XC2.bel h23).far (B' := w.heap.size + 1 + 1) (i := 0) (v := u0) (by omega)).far (B' := w.heap.size + 1 + 1) (i := 1) (v := u1) (by omega)).far (B' := w.heap.size + 1 + 1) (i := 2) (v := u2) (by omega)).far (B' := w.heap.size + 1 + 1) (i := 3) (v := u3) (by omega))
   refine ⟨⟨YT.cell 0 (by simp), YT.cell 1 (by simp), YT.cell 2 (by simp), YC.cell 0 (by simp), YC.cell 1 (by simp), YC.cell 2 (by simp), YC.cell 3 (by simp), YC.cell 4 (by simp)⟩, hS.alike lneE hA, (hF2.alike hA).old (bel_step hBW hV2).out.size, bel_set (bel_set (bel_set (bel_set hW3 hle2 _) hle2 _) hle2 _) hle2 _⟩
  clear hS hF hF2 XR3 hb3
  refine rd1 5 (fun K hK => ?_)
  go_simp
  refine hK.out _ _ ((HFin.out _ _ _ _).1) ?_; clear hK K hHeld; intro hHeld
  try simp only [Act.put, List.setIfInBounds_toArray, List.set_cons_zero, List.set_cons_succ]
  refine wpAnyH_done (by kernel_rfl) ?_ _
  refine NoPanic.normal ?_
  go_wp2
  rw [HYes.out]
  refine bodyPost_ret (v := .agg #[.int .i64 z, .int .i64 x, .int .i64 y, .slice a' (lnsQ m.nodes m.ways z x y).length c']) (by simp [results, Tryz.results8, go_sem, r0, r1, r2, r3]) rfl ⟨_, bs', rfl, ⟨a', c', rfl, (HFin.out _ _ _ _).2.1⟩, (HFin.out _ _ _ _).2.2.1, (HFin.out _ _ _ _).2.2.2⟩
end Go.Proofs.YtldfcnlhjjiihaaGreat
