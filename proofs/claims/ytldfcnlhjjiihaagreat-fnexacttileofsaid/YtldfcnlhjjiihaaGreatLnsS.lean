/-
  What is drawn of a tile, in the model: contract.
-/
import Derived.Test.YtldfcnlhjjiihaaGreatKI
import Derived.Test.YtldfcnlhjjiihaaGreatKB
import Derived.Test.YtldfcnlhjjiihaaGreatKE
import Derived.Test.YtldfcnlhjjiihaaGreatSpecM
import Derived.Test.YtldfcnlhjjiihaaGreatQntS
import Derived.Test.YtldfcnlhjjiihaaGreatStpA
namespace Go.Proofs.YtldfcnlhjjiihaaGreat
open Go.RowKit Go.Maps

theorem onl_growT {bs : List Nat} {w w1 w2 : World} {row : Option Nat} (h : Onl bs w w1) (hg : w1.grownBy w2 row) (hr : ∀ k, row = some k → w.heap.size ≤ k) : Onl bs w w2 :=
 ⟨hg.os.trans h.os, hg.tape.trans h.tape, hg.output.trans h.output, Nat.le_trans h.size hg.size, fun i hi hn => (hg.block i (Nat.lt_of_lt_of_le hi h.size) (fun e => by have := hr i e.symm; omega)).trans (h.block i hi hn)⟩
theorem setCell_grownT (w : World) (g o : Nat) (u : Value) : w.grownBy (w.setCell ⟨g, o, none⟩ u) (some g) :=
 ⟨rfl, rfl, rfl, by simp, fun k _ hk => heap_setCell_other w ⟨g, o, none⟩ k u (fun e => hk (by simp [e]))⟩
theorem flat_inT {α : Type} {q : Nat} {E : Elem α} (hE : ∀ {w : World} {b o : Nat} {d : α} {bs : List Nat}, E w b o d bs → bs = []) {w : World} {a : Option Addr} {l : List α} {bs : List Nat} (h : Sl q E w a l bs) {x : Nat} (hx : x ∈ bs) {n c : Nat} : (Value.slice a n c).ownBlock = some x := by
 rcases h with ⟨_, rfl⟩ | ⟨b, off, f, rfl, _, rfl, hh⟩
 ·exact nomatch hx
 ·rcases List.mem_cons.1 hx with rfl | hx
  ·rfl
  ·obtain ⟨i, hi, hxi⟩ := List.mem_flatMap.1 hx
   rw [hE (hh i (List.mem_range.1 hi))] at hxi
   exact nomatch hxi
/-- append of a plain list to an empty row, at a step of a region that draws; where the row lies behind it. -/
theorem step_flat_hat {α : Type} {q : Nat} {E : Elem α} {G : α → Prop} {cs : α → List Value} (hF : Flat q E G cs) (hq : 0 < q) {P : Program} (w : World) {ops : Array Oper} {o : Oper} {a : Act} {K : Act → World → Prop} {Q : Exit → Act → World → Prop} {Ex : Prop} (hgd : o.guard = none) (s x : Operand) (t : TypeId)
  (ho : o.op = .call { callee := .builtin .append, args := #[s, x], argTypes := #[t, t] })
  (base : Nat) (e : TypeId) (i : TypeInfo) (z : Value) (bytes : Nat) (ht : P.underlying t = some (.slice e)) (hi : P.info? e = some i) (hz : i.zero = some z) (hsize : i.size = q) (hby : i.bytes = bytes) (hzs : z.cells.size = q)
  (v : Value) (hs : a.eval s = v) (hown : w.ownsRow base e q v 0 []) (ad : Option Addr) (n c : Nat) (l : List α) (bs : List Nat) (hx : a.eval x = .slice ad n c) (hT : Sl q E w ad l bs) (hn : l.length = n) (hm : n ≤ 1048576) (hb64 : bytes ≤ 64) (hbase : base ≤ w.heap.size)
  (h : ∀ v' w', w'.ownsRow base e q v' l.length (recs (csL q cs l) l.length) → w.grownBy w' v.ownBlock → (v'.ownBlock = v.ownBlock ∨ v'.ownBlock = some w.heap.size) → K (a.put o.dst v') w') :
  if Region.wanted o (yielded ops a.tmps) = true then Oper.wp P o a w K Q else Ex := by
 subst hn
 by_cases h0 : l.length = 0
 ·obtain rfl : l = [] := List.length_eq_zero_iff.1 h0
  exact step_app0 w hgd s x t ho base e i q ht hi v 0 [] hs hown ad c hx (h v w hown (World.grownBy.refl _ _) (.inl rfl))
 ·obtain ⟨b, off, f, rfl, hb, hxx⟩ := hT.out (k := 0) (by omega)
  refine step_append_lies w hgd s x t ho base e i z q bytes ht hi hz hsize hby hzs hq v 0 [] hs hown ⟨b, off, none⟩ l.length c (recs (csL q cs l) l.length) hx (recs_len (csL_len hF l) _) (hF.news hq hxx) (hF.ones l) (by omega) (by unfold maxLen; omega) (by
   rw [Nat.zero_add]
   exact Nat.le_trans (Nat.mul_le_mul hm hb64) (by decide)) hbase w.heap.size rfl ?_
  intro g cap w' hown' hgrow hat _
  rw [Nat.zero_add, List.nil_append] at hown'
  rw [Nat.zero_add]
  refine h _ w' hown' hgrow ?_
  rcases hat with e | e
  ·exact .inl (by rw [e]; rfl)
  ·exact .inr (by rw [e]; rfl)
set_option maxRecDepth 100000 in
set_option maxHeartbeats 8000000 in
theorem specTileOf_any (v : Value) (m : MapD) (bs : List Nat) (z x y : Int) (w : World) (hV : MapV w v m bs) (hL : MapL m) :
  Calls Tryz.prog 5 #[v, til z x y] w fun e w' => ∃ v' bs', e = .returned v' ∧ TdtV w' v' (tdtQ m ⟨z, x, y⟩) bs' ∧ Fresh w w' bs' ∧ Bel w w' := by
 have hV' := hV
 obtain ⟨a0, c0, a1, c1, a2, c2, b0, b1, b2, rfl, _, _, tW, _⟩ := hV.out
 have HTW : Hid (Ways w a1 m.ways b1) := tW
 obtain ⟨i3, hi3, hz3, hs3, hy3⟩ := info_parts infoLne
 obtain ⟨i4, hi4, hz4, hs4, hy4⟩ := info_parts infoCTag
 clear hV tW
 obtain ⟨n0, hn0⟩ : ∃ n, m.nodes.length = n := ⟨_, rfl⟩
 obtain ⟨n1, hn1⟩ : ∃ n, m.ways.length = n := ⟨_, rfl⟩
 obtain ⟨n2, hn2⟩ : ∃ n, m.areas.length = n := ⟨_, rfl⟩
 have H1 : Hid (m.ways.length = n1) := hn1
 rw [hn0, hn1, hn2] at hV' ⊢
 have hn1m : n1 ≤ 1048576 := by rw [← hn1]; exact hL.l1
 clear hn0 hn1 hn2
 have hle2 : w.heap.size ≤ w.heap.size + 1 + 1 := by omega
 obtain ⟨W, HW⟩ : ∃ W, Hid (W = ((w.alloc (.cells #[.slice a0 n0 c0, .slice a1 n1 c1, .slice a2 n2 c2] 39)).alloc (.cells #[.int .i64 z, .int .i64 x, .int .i64 y] 30)).alloc (.cells #[.int .i64 0, .int .i64 0, .int .i64 0, .slice none 0 0] 33)) := ⟨_, (rfl : ((w.alloc (.cells #[.slice a0 n0 c0, .slice a1 n1 c1, .slice a2 n2 c2] 39)).alloc (.cells #[.int .i64 z, .int .i64 x, .int .i64 y] 30)).alloc (.cells #[.int .i64 0, .int .i64 0, .int .i64 0, .slice none 0 0] 33) = _)⟩
 have hBW : Bel w W := by rw [HW.out]; exact bel_alloc (bel_alloc (bel_alloc (Bel.refl _) _) _) _
 have XM : Hid (Blk W w.heap.size [.slice a0 n0 c0, .slice a1 n1 c1, .slice a2 n2 c2]) := by rw [HW.out]; exact ((Blk.new w [.slice a0 n0 c0, .slice a1 n1 c1, .slice a2 n2 c2] _).bel (bel_alloc (Bel.refl _) _)).bel (bel_alloc (Bel.refl _) _)
 have XT : Hid (Blk W (w.heap.size + 1) [.int .i64 z, .int .i64 x, .int .i64 y]) := by rw [HW.out]; exact (Blk.new1 w _ [.int .i64 z, .int .i64 x, .int .i64 y] _).bel (bel_alloc (Bel.refl _) _)
 have XR : Hid (Blk W (w.heap.size + 1 + 1) [.int .i64 0, .int .i64 0, .int .i64 0, .slice none 0 0]) := by rw [HW.out]; exact Blk.new2 w _ _ [.int .i64 0, .int .i64 0, .int .i64 0, .slice none 0 0] _
 have x0 : W.cell? ⟨w.heap.size, 0, none⟩ = some (.slice a0 n0 c0) := XM.out.cell 0 (by simp)
 have x1 : W.cell? ⟨w.heap.size, 1, none⟩ = some (.slice a1 n1 c1) := XM.out.cell 1 (by simp)
 have x2 : W.cell? ⟨w.heap.size, 2, none⟩ = some (.slice a2 n2 c2) := XM.out.cell 2 (by simp)
 have xl := XM.out.lt
 go_enter Tryz.func5, Tryz.ntmps5
 go_upto_region 1 with fail
 rw [← HW.out]
 clear HW
 go_wp2_with fail
 refine (specMapOk_any _ m bs _ (hV'.bel hBW) hL).mono ?_
 rintro e w1 ⟨rfl, hb1⟩
 clear x0 x1 x2 xl
 rcases Bool.eq_false_or_eq_true (mapB m) with hm | hm
 rotate_left
 ·rw [hm]
  have HZ : Hid (tdtQ m ⟨z, x, y⟩ = ⟨⟨0, 0, 0⟩, []⟩) := (by unfold tdtQ; exact if_neg (by rw [hm]; simp) : tdtQ m ⟨z, x, y⟩ = ⟨⟨0, 0, 0⟩, []⟩)
  have XE := XR.out.bel (hb1)
  have r0 : w1.cell? ⟨w.heap.size + 1 + 1, 0, none⟩ = some (.int .i64 0) := XE.cell 0 (by simp)
  have r1 : w1.cell? ⟨w.heap.size + 1 + 1, 1, none⟩ = some (.int .i64 0) := XE.cell 1 (by simp)
  have r2 : w1.cell? ⟨w.heap.size + 1 + 1, 2, none⟩ = some (.int .i64 0) := XE.cell 2 (by simp)
  have r3 : w1.cell? ⟨w.heap.size + 1 + 1, 3, none⟩ = some (.slice none 0 0) := XE.cell 3 (by simp)
  have rf := XE.free
  have rl := XE.lt
  have hBZ : Bel w w1 := bel_step hBW (hb1)
  clear XE
  go_wp2
  refine bodyPost_ret (v := .agg #[.int .i64 0, .int .i64 0, .int .i64 0, .slice none 0 0]) (by simp [results, Tryz.results5, go_sem, r0, r1, r2, r3]) rfl ⟨_, [], rfl, (by rw [HZ.out]; exact ⟨none, 0, rfl, Sl.nil⟩), Fresh.nil _ _, ?_⟩
  exact bel_set (bel_set (bel_set (bel_set hBZ hle2 _) hle2 _) hle2 _) hle2 _
 rw [hm]
 have XT1 := XT.out.bel hb1
 have t0 : w1.cell? ⟨w.heap.size + 1, 0, none⟩ = some (.int .i64 z) := XT1.cell 0 (by simp)
 have t1 : w1.cell? ⟨w.heap.size + 1, 1, none⟩ = some (.int .i64 x) := XT1.cell 1 (by simp)
 have t2 : w1.cell? ⟨w.heap.size + 1, 2, none⟩ = some (.int .i64 y) := XT1.cell 2 (by simp)
 have tl := XT1.lt
 go_wp2_with fail
 refine (specTileOk_any z x y _).mono ?_
 rintro e w2 ⟨rfl, hb2⟩
 have hV2 : Bel W w2 := bel_step hb1 hb2
 clear t0 t1 t2 tl XT1
 rcases Bool.eq_false_or_eq_true (tilB z x y) with ht | ht
 rotate_left
 ·rw [ht]
  have HZ : Hid (tdtQ m ⟨z, x, y⟩ = ⟨⟨0, 0, 0⟩, []⟩) := (by unfold tdtQ; exact if_neg (by rw [hm, ht]; simp) : tdtQ m ⟨z, x, y⟩ = ⟨⟨0, 0, 0⟩, []⟩)
  have XE := XR.out.bel (hV2)
  have r0 : w2.cell? ⟨w.heap.size + 1 + 1, 0, none⟩ = some (.int .i64 0) := XE.cell 0 (by simp)
  have r1 : w2.cell? ⟨w.heap.size + 1 + 1, 1, none⟩ = some (.int .i64 0) := XE.cell 1 (by simp)
  have r2 : w2.cell? ⟨w.heap.size + 1 + 1, 2, none⟩ = some (.int .i64 0) := XE.cell 2 (by simp)
  have r3 : w2.cell? ⟨w.heap.size + 1 + 1, 3, none⟩ = some (.slice none 0 0) := XE.cell 3 (by simp)
  have rf := XE.free
  have rl := XE.lt
  have hBZ : Bel w w2 := bel_step hBW (hV2)
  clear XE
  go_wp2
  refine bodyPost_ret (v := .agg #[.int .i64 0, .int .i64 0, .int .i64 0, .slice none 0 0]) (by simp [results, Tryz.results5, go_sem, r0, r1, r2, r3]) rfl ⟨_, [], rfl, (by rw [HZ.out]; exact ⟨none, 0, rfl, Sl.nil⟩), Fresh.nil _ _, ?_⟩
  exact bel_set (bel_set (bel_set (bel_set hBZ hle2 _) hle2 _) hle2 _) hle2 _
 rw [ht]
 have HYes : Hid (tdtQ m ⟨z, x, y⟩ = ⟨⟨z, x, y⟩, lnsQ m.nodes m.ways z x y⟩) := (by unfold tdtQ; exact if_pos (by rw [hm]; exact ht) : tdtQ m ⟨z, x, y⟩ = ⟨⟨z, x, y⟩, lnsQ m.nodes m.ways z x y⟩)
 have hok := bP_out hm
 have HOK : Hid (MapOkP m) := hok
 have XT2 := XT.out.bel hV2
 have t0 : w2.cell? ⟨w.heap.size + 1, 0, none⟩ = some (.int .i64 z) := XT2.cell 0 (by simp)
 have t1 : w2.cell? ⟨w.heap.size + 1, 1, none⟩ = some (.int .i64 x) := XT2.cell 1 (by simp)
 have t2 : w2.cell? ⟨w.heap.size + 1, 2, none⟩ = some (.int .i64 y) := XT2.cell 2 (by simp)
 have tl := XT2.lt
 obtain ⟨wA, HwA⟩ : ∃ W, Hid (W = w2.alloc (.cells #[.int .i64 z, .int .i64 x, .int .i64 y, .slice none 0 0] 33)) := ⟨_, (rfl : w2.alloc (.cells #[.int .i64 z, .int .i64 x, .int .i64 y, .slice none 0 0] 33) = _)⟩
 have hbA : Bel w2 wA := by rw [HwA.out]; exact bel_alloc (Bel.refl _) _
 have XD : Blk wA w2.heap.size [.int .i64 z, .int .i64 x, .int .i64 y, .slice none 0 0] := by rw [HwA.out]; exact Blk.new w2 [.int .i64 z, .int .i64 x, .int .i64 y, .slice none 0 0] _
 have hWA := bel_step hV2 hbA
 have hDW : W.heap.size ≤ w2.heap.size := hV2.out.size
 obtain ⟨D, HD⟩ : ∃ n, Hid (w2.heap.size = n) := ⟨_, (rfl : w2.heap.size = _)⟩
 rw [HD.out] at XD hDW
 go_upto_region 4 with fail
 rw [← HwA.out, HD.out]
 clear HwA t0 t1 t2 tl XT2 hok
 have hDA : D < wA.heap.size := XD.lt
 go_wp2
 go_loopw [6, 7, 8] (fun i _ _ wr => ∃ (k : Nat) (va : Option Addr) (vc : Nat) (R : Nat → List Value) (f : Nat → List Nat), k ≤ n1 ∧ i = .int .i64 k ∧ Blk wr D [.int .i64 z, .int .i64 x, .int .i64 y, .slice va (lnsU m.nodes m.ways z x y k).length vc] ∧ Gr 3 LneV 67 wA.heap.size wr (.slice va (lnsU m.nodes m.ways z x y k).length vc) (lnsU m.nodes m.ways z x y k) R f ∧ Onl [D] wA wr) (fun i _ _ _ => n1 - (intOf i).toNat)
 case atStart => exact ⟨0, none, 0, _, _, Nat.zero_le _, rfl, XD, Gr.nil 3 LneV 67 _ _, Onl.refl _ _⟩
 case round =>
  clear XD
  obtain ⟨k, va, vc, R, f0, hk, rfl, hX, hG, hO⟩ := hrel
  have hBr : Bel W wr := hO.to_bel hWA (fun q hq => by rw [List.mem_singleton.1 hq]; exact hDW)
  have XMr := XM.out.bel hBr
  have XTr := XT.out.bel hBr
  have x1 : wr.cell? ⟨w.heap.size, 1, none⟩ = some (.slice a1 n1 c1) := XMr.cell 1 (by simp)
  have xl := XMr.lt
  have HX : Hid (Blk wr D [.int .i64 z, .int .i64 x, .int .i64 y, .slice va (lnsU m.nodes m.ways z x y k).length vc]) := hX
  have HO : Hid (Onl [D] wA wr) := hO
  have HG : Hid (Gr 3 LneV 67 wA.heap.size wr (.slice va (lnsU m.nodes m.ways z x y k).length vc) (lnsU m.nodes m.ways z x y k) R f0) := hG
  clear hX hO hG
  by_cases hlt : k < n1
  ·have hkl : k < m.ways.length := by rw [H1.out]; exact hlt
   obtain ⟨b, off, f', rfl, hb, hx⟩ := (HTW.out.bel wayE hBW).out hkl
   obtain ⟨id0, e0, ra2, rc2, ra, rc, g1, g2, _, hml2, hml, e1, tt2, e2, tt⟩ := hx k hkl
   have hW5 := HOK.out.wy k hkl
   have HYK : m.ways[k].nodes.length ≤ 2000 ∧ ∀ j (h' : j < m.ways[k].nodes.length), HasI m.nodes.length (nId m.nodes) m.ways[k].nodes[j] := ⟨hW5.2.1, fun j h' => (hW5.2.2 j h').1⟩
   have htg := (hL.u1 k hkl).2
   have hRB := row_rowB HOK.out HYK.1
   have HSf : Hid (∀ j, (lnM (lnsU m.nodes m.ways z x y k) (lnsW m.nodes z x y m.ways[k]) j).length = 2000 → lnsU m.nodes m.ways z x y (k + 1) = lnM (lnsU m.nodes m.ways z x y k) (lnsW m.nodes z x y m.ways[k]) j) := fun j h => lnsU_full hkl h
   have HSr : Hid (∀ j, (lnsW m.nodes z x y m.ways[k]).length ≤ j → (lnM (lnsU m.nodes m.ways z x y k) (lnsW m.nodes z x y m.ways[k]) j).length ≤ 2000 → lnsU m.nodes m.ways z x y (k + 1) = lnM (lnsU m.nodes m.ways z x y k) (lnsW m.nodes z x y m.ways[k]) j) := fun j hj h => lnsU_room hkl hj h
   obtain ⟨d, Hd⟩ : ∃ d, Hid (m.ways[k] = d) := ⟨_, (rfl : m.ways[k] = _)⟩
   rw [Hd.out] at e0 e1 e2 id0 hml hml2 tt tt2 HYK htg hRB HSf HSr
   obtain ⟨L, HLq⟩ : ∃ L, Hid (rowTo m.nodes d.nodes d.nodes.length = L) := ⟨_, (rfl : rowTo m.nodes d.nodes d.nodes.length = _)⟩
   have HLl : Hid (L.length ≤ 2000) := by rw [← HLq.out]; unfold rowTo; rw [List.length_map, List.length_take]; exact (by omega : min d.nodes.length d.nodes.length ≤ 2000)
   rw [HLq.out] at hRB
   have HRW : Hid (rowB L.length (lx L) (ly L) = true) := hRB
   have HTB : Hid ((tbx z x y).a ≤ (tbx z x y).c ∧ (tbx z x y).b ≤ (tbx z x y).d ∧ Box64 (tbx z x y)) := tbx_ordT ht
   obtain ⟨PC, HPC⟩ : ∃ PC, Hid (clipQ (tbx z x y) L.length (lx L) (ly L) = PC) := ⟨_, (rfl : clipQ (tbx z x y) L.length (lx L) (ly L) = _)⟩
   have HPC2 : Hid ((clpQ (tbx z x y) (lx L) (ly L) (L.length - 1)).1 = PC) := by rw [← clip_same HRW.out HTB.out.1 HTB.out.2.1]; exact HPC.out
   have HPJ : Hid (GoodP PC ∧ PC.length ≤ 2000 ∧ PC.flatten.length ≤ 4000) := by rw [← HPC.out]; exact clipQ_J HTB.out.2.2
   have HWm : Hid (lnsW m.nodes z x y d = PC.map fun c => ⟨d.id, qzQ z x y c.length (lx c) (ly c), d.tags⟩) := by
    show lnsW m.nodes z x y d = _
    unfold lnsW
    rw [HLq.out, HPC.out]
   have hC : ∀ w', Bel wr w' → w'.cell? ⟨w.heap.size, 0, none⟩ = some (.slice a0 n0 c0) ∧ w'.cell? ⟨w.heap.size, 1, none⟩ = some (.slice (some ⟨b, off, none⟩) n1 c1) ∧ w'.cell? ⟨w.heap.size, 2, none⟩ = some (.slice a2 n2 c2) ∧ w'.cell? ⟨w.heap.size + 1, 0, none⟩ = some (.int .i64 z) ∧ w'.cell? ⟨w.heap.size + 1, 1, none⟩ = some (.int .i64 x) ∧ w'.cell? ⟨w.heap.size + 1, 2, none⟩ = some (.int .i64 y) ∧ w'.cell? ⟨b, off + k * 3, none⟩ = some (.int .i64 d.id) ∧ w'.cell? ⟨b, off + k * 3 + 1, none⟩ = some (.slice ra2 d.nodes.length rc2) ∧ w'.cell? ⟨b, off + k * 3 + 2, none⟩ = some (.slice ra d.tags.length rc) :=
    fun w' h => ⟨(XMr.bel h).cell 0 (by simp), (XMr.bel h).cell 1 (by simp), (XMr.bel h).cell 2 (by simp), (XTr.bel h).cell 0 (by simp), (XTr.bel h).cell 1 (by simp), (XTr.bel h).cell 2 (by simp), bel_cellM (bel_step hBr h) hb e0, bel_cellM (bel_step hBr h) hb e1, bel_cellM (bel_step hBr h) hb e2⟩
   have HGT : Hid (Tags W ra d.tags g2) := tt
   have hT1 : ∀ w', Bel wr w' → Ints w' ra2 d.nodes g1 := fun w' h => (tt2.bel intE hBr).bel intE h
   have hT2 : ∀ w', Bel wr w' → MapV w' (.agg #[.slice a0 n0 c0, .slice (some ⟨b, off, none⟩) n1 c1, .slice a2 n2 c2]) m bs := fun w' h => hV'.bel (bel_step hBW (bel_step hBr h))
   have g0 : Bel wr wr := Bel.refl _
   have hlt' : (k : Int) < (n1 : Int) := by omega
   have He0 : Hid (W.cell? ⟨b, off + k * 3, none⟩ = some (.int .i64 d.id)) := e0
   have He2 : Hid (W.cell? ⟨b, off + k * 3 + 2, none⟩ = some (.slice ra d.tags.length rc)) := e2
   clear hx tt tt2 e0 e1 e2
   go_wp2
   go_region_held3 (fun w' => Bel wr w') (with_reducible (repeat (first | assumption | exact g0 | refine Bel.drew ?_ | refine bel_then (by assumption) ?_)))
    (first
     | (go_at_call 20; refine (l2Row_any _ m bs d.id _ _ _ _ _ _ d.nodes g1 0 _ (Nat.zero_le _) (hT2 _ (by assumption)) (hT1 _ (by assumption)) rfl HYK.1 HOK.out.n1 HOK.out.an HYK.2).mono ?_; rintro e w5 ⟨v5, rfl, O5, hb5⟩; rw [HLq.out] at O5; obtain ⟨a5, c5, b5, rfl, P5, _, _⟩ := O5)
     | (go_at_call 21; refine (l6Box_any z x y _ ht).mono ?_; rintro e w6 ⟨rfl, hb6⟩)
     | (go_at_call 19; refine (l6Clip_low a5 L.length c5 (lx L) (ly L) (tbx z x y) _ (Sl.pts (P5.bel ptE (by with_reducible (repeat (first | exact Bel.refl _ | assumption | refine Bel.drew ?_ | refine bel_then (by assumption) ?_))))) HLl.out (rowB_out HRW.out).2 HTB.out.1 HTB.out.2.1 HTB.out.2.2).mono ?_; rintro e w7 ⟨v7, lo, GG, CC, rfl, hlo, RW, hb7⟩; rw [HPC2.out] at RW; refine (fun N8 : wr.heap.size ≤ lo => ?_) (Nat.le_trans ((fun (h : Bel wr _) => h.out.size) (by with_reducible (repeat (first | assumption | exact g0 | refine Bel.drew ?_ | refine bel_then (by assumption) ?_)))) hlo)))
   have hr7 : Bel wr w7 := by assumption
   obtain ⟨a7, c7, rfl⟩ := own_shape RW.own
   obtain ⟨np, Hnp⟩ : ∃ n, Hid (PC.length = n) := ⟨_, (rfl : PC.length = _)⟩
   have hnp : np ≤ 2000 := by rw [← Hnp.out]; exact HPJ.out.2.1
   rw [Hnp.out]
   obtain ⟨LW, HLW⟩ : ∃ l, Hid (lnsW m.nodes z x y d = l) := ⟨_, (rfl : lnsW m.nodes z x y d = _)⟩
   rw [HLW.out] at HSf HSr HWm
   have HWl : Hid (LW.length = np) := by rw [HWm.out, List.length_map]; exact Hnp.out
   have HWe : Hid (∀ j (h : j < LW.length) (h' : j < PC.length), LW[j] = ⟨d.id, qzQ z x y PC[j].length (lx PC[j]) (ly PC[j]), d.tags⟩) := fun j h h' => by
    have := HWm.out
    subst this
    simp
   obtain ⟨T, HT⟩ : ∃ l, Hid (lnsU m.nodes m.ways z x y k = l) := ⟨_, (rfl : lnsU m.nodes m.ways z x y k = _)⟩
   have hTl : T.length ≤ 2000 := by rw [← HT.out]; exact lnsU_len _ _ _ _ _ _
   rw [HT.out] at HX HG HSf HSr
   have hX7 : Blk w7 D [.int .i64 z, .int .i64 x, .int .i64 y, .slice va (lnM T LW 0).length vc] := by rw [lnM_zero]; exact HX.out.bel hr7
   have hG7 : Gr 3 LneV 67 wA.heap.size w7 (.slice va (lnM T LW 0).length vc) (lnM T LW 0) R f0 := by rw [lnM_zero]; exact HG.out.bel lneV hr7
   have hO7 : Onl [D] wA w7 := HO.out.bel hr7
   have hGlt := HG.out.own.lt
   have hrA : wA.heap.size ≤ wr.heap.size := HO.out.size
   have hRWd : ∀ g, (Value.slice a7 PC.length c7).ownBlock = some g → lo ≤ g := fun g e => (RW.own.lt g e).1
   have hav7 : ∀ g, (Value.slice va (lnM T LW 0).length vc).ownBlock = some g → (Value.slice a7 PC.length c7).ownBlock ≠ some g ∧ ∀ i, i < PC.length → GG i ≠ g := fun g e => by
    rw [lnM_zero] at e
    have h1 := (hGlt g e).2
    exact ⟨fun e2 => by have := hRWd g e2; omega, fun i hi e2 => by have := (RW.lt hi).1; omega⟩
   have HDR : Hid ((Value.slice a7 PC.length c7).ownBlock ≠ some D ∧ ∀ i, i < PC.length → GG i ≠ D) := ⟨fun e2 => by have := hRWd D e2; omega, fun i hi e2 => by have := (RW.lt hi).1; omega⟩
   have HRWs : Hid (RwM lo w7 (.slice a7 PC.length c7) PC GG CC) := RW
   clear hC hT1 hT2 g0 N8 hlo hb7 P5 hGlt hRWd HG HX HO RW
   go_wp2
   go_loopw [8] (fun i wq => ∃ (j : Nat) (v1 : Option Addr) (c3 : Nat) (R : Nat → List Value) (f : Nat → List Nat), j ≤ np ∧ i = .int .i64 j ∧ Blk wq D [.int .i64 z, .int .i64 x, .int .i64 y, .slice v1 (lnM T LW j).length c3] ∧ Gr 3 LneV 67 wA.heap.size wq (.slice v1 (lnM T LW j).length c3) (lnM T LW j) R f ∧ (lnM T LW j).length ≤ 2000 ∧ Onl [D] wA wq ∧ RwM lo wq (.slice a7 PC.length c7) PC GG CC ∧ (∀ g, (Value.slice v1 (lnM T LW j).length c3).ownBlock = some g → (Value.slice a7 PC.length c7).ownBlock ≠ some g ∧ ∀ i, i < PC.length → GG i ≠ g)) (fun i _ => np - (intOf i).toNat)
   case atStart => exact ⟨0, va, vc, _, _, Nat.zero_le _, rfl, hX7, hG7, by rw [lnM_zero]; exact hTl, hO7, HRWs.out, hav7⟩
   case round =>
    clear hX7 hG7 hO7 hav7 hBr XMr XTr x1 xl hr7 hrA
    obtain ⟨wq, rfl⟩ : ∃ V, V = wr := ⟨_, rfl⟩
    obtain ⟨j, v1, c3, R1, f1, hj, rfl, hX, hG, hGl, hO, hRW, hav⟩ := hrel
    have hBq : Bel W wq := hO.to_bel hWA (fun q hq => by rw [List.mem_singleton.1 hq]; exact hDW)
    have x3 : wq.cell? ⟨D, 3, none⟩ = some (.slice v1 (lnM T LW j).length c3) := hX.cell 3 (by simp)
    have x3l := hX.lt
    obtain ⟨N, HNn⟩ : ∃ N, Hid ((lnM T LW j).length = N) := ⟨_, (rfl : (lnM T LW j).length = _)⟩
    have hN2 : N ≤ 2000 := by rw [← HNn.out]; exact hGl
    have HX : Hid (Blk wq D [.int .i64 z, .int .i64 x, .int .i64 y, .slice v1 (lnM T LW j).length c3]) := hX
    have HG : Hid (Gr 3 LneV 67 wA.heap.size wq (.slice v1 (lnM T LW j).length c3) (lnM T LW j) R1 f1) := hG
    have HO : Hid (Onl [D] wA wq) := hO
    have HRWq : Hid (RwM lo wq (.slice a7 PC.length c7) PC GG CC) := hRW
    have Hav : Hid (∀ g, (Value.slice v1 (lnM T LW j).length c3).ownBlock = some g → (Value.slice a7 PC.length c7).ownBlock ≠ some g ∧ ∀ i, i < PC.length → GG i ≠ g) := hav
    rw [HNn.out] at x3
    clear hX hG hO hRW hav hGl
    by_cases hjl : j < np
    ·have hjl' : (j : Int) < (np : Int) := by omega
     by_cases hful : N < 2000
     ·have hful' : (N : Int) < 2000 := by omega
      have hjp : j < PC.length := by rw [Hnp.out]; exact hjl
      have hjw : j < LW.length := by rw [HWl.out]; exact hjl
      have hPl : ∀ c ∈ PC, c.length ≤ 1000000 := fun c hc => by
       obtain ⟨i, hi, rfl⟩ := List.getElem_of_mem hc
       have := flt_len hi
       have := HPJ.out.2.2
       omega
      obtain ⟨aR, cR, b8, hvR, R8⟩ := HRWq.out.rows HPJ.out.1 hPl
      obtain ⟨rfl, rfl⟩ : a7 = aR ∧ c7 = cR := by simpa using hvR
      obtain ⟨bR, oR, fR, rfl, hbR, hxR⟩ := R8.out hjp
      obtain ⟨ap, cp, hmp, cl, Tp⟩ := hxR j hjp
      rw [Nat.mul_one] at cl
      have HSu : Hid (lnM T LW (j + 1) = lnM T LW j ++ [⟨d.id, qzQ z x y PC[j].length (lx PC[j]) (ly PC[j]), d.tags⟩]) := by
       have h1 := lnM_succ (T := T) hjw
       rw [HWe.out j hjw hjp] at h1
       exact h1
      have hpf : PC[j].length ≤ 4000 := Nat.le_trans (flt_len hjp) HPJ.out.2.2
      have hrb : rowB PC[j].length (lx PC[j]) (ly PC[j]) = true := clip_pieces HRW.out _ (by rw [HPC.out]; exact List.getElem_mem hjp)
      obtain ⟨pc, Hpc⟩ : ∃ d, Hid (PC[j] = d) := ⟨_, (rfl : PC[j] = _)⟩
      rw [Hpc.out] at cl Tp HSu hpf hmp hrb
      obtain ⟨LQ, HLQ⟩ : ∃ l, Hid (qzQ z x y pc.length (lx pc) (ly pc) = l) := ⟨_, (rfl : qzQ z x y pc.length (lx pc) (ly pc) = _)⟩
      have HQz : Hid (LQ = if inB (tbx z x y) pc.length (lx pc) (ly pc) = true then cpL (qzX z x y (lx pc)) (qzY z x y (ly pc)) pc.length else []) := by rw [← HLQ.out]; exact quant_same hrb ht
      rw [HLQ.out] at HSu
      have XMq := XM.out.bel hBq
      have XTq := XT.out.bel hBq
      have hbq0 : b < wq.heap.size := Nat.lt_of_lt_of_le hb hBq.out.size
      have e0q := bel_cellM hBq hb He0.out
      have e2q := bel_cellM hBq hb He2.out
      have HSS : Hid (∀ w', Bel wq w' → w'.cell? ⟨w.heap.size, 1, none⟩ = some (.slice (some ⟨b, off, none⟩) n1 c1) ∧ w'.cell? ⟨w.heap.size + 1, 0, none⟩ = some (.int .i64 z) ∧ w'.cell? ⟨w.heap.size + 1, 1, none⟩ = some (.int .i64 x) ∧ w'.cell? ⟨w.heap.size + 1, 2, none⟩ = some (.int .i64 y) ∧ w'.cell? ⟨b, off + k * 3, none⟩ = some (.int .i64 d.id) ∧ w'.cell? ⟨b, off + k * 3 + 2, none⟩ = some (.slice ra d.tags.length rc) ∧ w'.cell? ⟨bR, oR + j, none⟩ = some (.slice ap pc.length cp)) := fun w' h => ⟨(XMq.bel h).cell 1 (by simp), (XTq.bel h).cell 0 (by simp), (XTq.bel h).cell 1 (by simp), (XTq.bel h).cell 2 (by simp), bel_cellM h hbq0 e0q, bel_cellM h hbq0 e2q, bel_cellM h hbR cl⟩
      have HD3 : Hid (∀ w', Bel wq w' → w'.cell? ⟨D, 3, none⟩ = some (.slice v1 N c3)) := fun w' h => bel_cellM h x3l x3
      have HTP : Hid (∀ i (h : i < d.tags.length), TagP d.tags[i]) := fun i h => by obtain ⟨_, _, _, _, _, hxx⟩ := HGT.out.out h; exact (tagF.get (hxx i h)).1
      have g1 : (fun w' => w'.cell? ⟨w.heap.size, 1, none⟩ = some (.slice (some ⟨b, off, none⟩) n1 c1) ∧ w'.cell? ⟨w.heap.size + 1, 0, none⟩ = some (.int .i64 z) ∧ w'.cell? ⟨w.heap.size + 1, 1, none⟩ = some (.int .i64 x) ∧ w'.cell? ⟨w.heap.size + 1, 2, none⟩ = some (.int .i64 y) ∧ w'.cell? ⟨b, off + k * 3, none⟩ = some (.int .i64 d.id) ∧ w'.cell? ⟨b, off + k * 3 + 2, none⟩ = some (.slice ra d.tags.length rc) ∧ w'.cell? ⟨bR, oR + j, none⟩ = some (.slice ap pc.length cp)) wq.drew := HSS.out _ (Bel.refl _).drew
      have hown := HG.out.own
      rw [HNn.out] at hown
      have HXn : Hid (Blk wq D [.int .i64 z, .int .i64 x, .int .i64 y, .slice v1 N c3]) := by rw [← HNn.out]; exact HX.out
      have hownA : ∀ q, (Value.slice v1 N c3).ownBlock = some q → wA.heap.size ≤ q := fun q e => (hown.lt q e).1
      have havN : ∀ g, (Value.slice v1 N c3).ownBlock = some g → (Value.slice (some ⟨bR, oR, none⟩) PC.length c7).ownBlock ≠ some g ∧ ∀ i, i < PC.length → GG i ≠ g := by rw [← HNn.out]; exact Hav.out
      have hW1 : w.heap.size < W.heap.size := XM.out.lt
      have hW2 : w.heap.size + 1 < W.heap.size := XT.out.lt
      have hbD : bR ≠ D := fun e => HDR.out.1 (by rw [e]; rfl)
      have HSet : Hid (∀ (w8 : World) (u : Value), (fun w' => w'.cell? ⟨w.heap.size, 1, none⟩ = some (.slice (some ⟨b, off, none⟩) n1 c1) ∧ w'.cell? ⟨w.heap.size + 1, 0, none⟩ = some (.int .i64 z) ∧ w'.cell? ⟨w.heap.size + 1, 1, none⟩ = some (.int .i64 x) ∧ w'.cell? ⟨w.heap.size + 1, 2, none⟩ = some (.int .i64 y) ∧ w'.cell? ⟨b, off + k * 3, none⟩ = some (.int .i64 d.id) ∧ w'.cell? ⟨b, off + k * 3 + 2, none⟩ = some (.slice ra d.tags.length rc) ∧ w'.cell? ⟨bR, oR + j, none⟩ = some (.slice ap pc.length cp)) w8 → (fun w' => w'.cell? ⟨w.heap.size, 1, none⟩ = some (.slice (some ⟨b, off, none⟩) n1 c1) ∧ w'.cell? ⟨w.heap.size + 1, 0, none⟩ = some (.int .i64 z) ∧ w'.cell? ⟨w.heap.size + 1, 1, none⟩ = some (.int .i64 x) ∧ w'.cell? ⟨w.heap.size + 1, 2, none⟩ = some (.int .i64 y) ∧ w'.cell? ⟨b, off + k * 3, none⟩ = some (.int .i64 d.id) ∧ w'.cell? ⟨b, off + k * 3 + 2, none⟩ = some (.slice ra d.tags.length rc) ∧ w'.cell? ⟨bR, oR + j, none⟩ = some (.slice ap pc.length cp)) (w8.setCell ⟨D, 3, none⟩ u)) := fun w8 u ⟨s0, s1, s2, s3, s4, s5, s6⟩ => by
       have key : ∀ (B o : Nat) (v : Value), B ≠ D → w8.cell? ⟨B, o, none⟩ = some v → (w8.setCell ⟨D, 3, none⟩ u).cell? ⟨B, o, none⟩ = some v := fun B o v hne h => by rw [World.cell?_setCell_other _ _ _ _ (fun e => hne (congrArg Addr.block e).symm)]; exact h
       exact ⟨key _ _ _ (by omega) s0, key _ _ _ (by omega) s1, key _ _ _ (by omega) s2, key _ _ _ (by omega) s3, key _ _ _ (by omega) s4, key _ _ _ (by omega) s5, key _ _ _ hbD s6⟩
      have HKeep : Hid (∀ (w9 w8 : World), Bel wq w9 → w9.grownBy w8 (Value.slice v1 N c3).ownBlock → Hid ((fun w' => w'.cell? ⟨w.heap.size, 1, none⟩ = some (.slice (some ⟨b, off, none⟩) n1 c1) ∧ w'.cell? ⟨w.heap.size + 1, 0, none⟩ = some (.int .i64 z) ∧ w'.cell? ⟨w.heap.size + 1, 1, none⟩ = some (.int .i64 x) ∧ w'.cell? ⟨w.heap.size + 1, 2, none⟩ = some (.int .i64 y) ∧ w'.cell? ⟨b, off + k * 3, none⟩ = some (.int .i64 d.id) ∧ w'.cell? ⟨b, off + k * 3 + 2, none⟩ = some (.slice ra d.tags.length rc) ∧ w'.cell? ⟨bR, oR + j, none⟩ = some (.slice ap pc.length cp)) w8) ∧ Hid True ∧ Blk w8 D [.int .i64 z, .int .i64 x, .int .i64 y, .slice v1 N c3]) := fun w9 w8 hb9 hg => by
       have hAq := HO.out.size
       have key : ∀ (B o : Nat) (v : Value), B < wq.heap.size → some B ≠ (Value.slice v1 N c3).ownBlock → w9.cell? ⟨B, o, none⟩ = some v → w8.cell? ⟨B, o, none⟩ = some v := fun B o v hl hn h => by rw [World.cell?_of_block (a := ⟨B, o, none⟩) (hg.block B (Nat.lt_of_lt_of_le hl hb9.out.size) hn)]; exact h
       have low : ∀ B, B < wA.heap.size → some B ≠ (Value.slice v1 N c3).ownBlock := fun B hl e => by have := hownA B e.symm; omega
       obtain ⟨s0, s1, s2, s3, s4, s5, s6⟩ := HSS.out w9 hb9
       exact ⟨⟨key _ _ _ (by omega) (low _ (by omega)) s0, key _ _ _ (by omega) (low _ (by omega)) s1, key _ _ _ (by omega) (low _ (by omega)) s2, key _ _ _ (by omega) (low _ (by omega)) s3, key _ _ _ (by omega) (low _ (by omega)) s4, key _ _ _ (by omega) (low _ (by omega)) s5, key _ _ _ hbR (fun e => (havN _ e.symm).1 rfl) s6⟩, trivial,
        blk_grownT (HXn.out.bel hb9) hg (low _ hDA)⟩
      have HLn1 : Hid ((lnM T LW (j + 1)).length = N + 1) := by rw [HSu.out, List.length_append, HNn.out]; rfl
      have HL9 : Hid ((lnM T LW (j + 1)).length ≤ 2000) := by rw [HLn1.out]; exact (by omega : N + 1 ≤ 2000)
      have Hqz : Hid (LQ.length ≤ maxLen) := by rw [← HLQ.out]; exact Nat.le_trans (qzQ_len z x y pc.length (lx pc) (ly pc)) (by unfold maxLen; omega)
      have HStep : Hid (∀ (aq : Option Addr) (cq : Nat) (at' : Option Addr) (ct : Nat) (bq bt : List Nat) (g cap : Nat) (Y w8 : World), Bel wq Y → PtL Y aq LQ bq → Tags Y at' d.tags bt → Fresh wq Y (bq ++ bt) →
        w8.ownsRow wA.heap.size 67 3 (.slice (some ⟨g, 0, none⟩) (N + 1) cap) (N + 1) (recs R1 N ++ [.int .i64 d.id, .slice aq LQ.length cq, .slice at' d.tags.length ct]) → (Y.alloc (.cells #[.int .i64 d.id, .slice aq LQ.length cq, .slice at' d.tags.length ct] 67)).grownBy w8 (Value.slice v1 N c3).ownBlock → ((Value.slice v1 N c3).ownBlock = some g ∨ g = Y.heap.size + 1) →
        ∃ R' f', Blk (w8.setCell ⟨D, 3, none⟩ (.slice (some ⟨g, 0, none⟩) (N + 1) cap)) D [.int .i64 z, .int .i64 x, .int .i64 y, .slice (some ⟨g, 0, none⟩) (lnM T LW (j + 1)).length cap] ∧ Gr 3 LneV 67 wA.heap.size (w8.setCell ⟨D, 3, none⟩ (.slice (some ⟨g, 0, none⟩) (N + 1) cap)) (.slice (some ⟨g, 0, none⟩) (lnM T LW (j + 1)).length cap) (lnM T LW (j + 1)) R' f' ∧ Onl [D] wA (w8.setCell ⟨D, 3, none⟩ (.slice (some ⟨g, 0, none⟩) (N + 1) cap)) ∧ RwM lo (w8.setCell ⟨D, 3, none⟩ (.slice (some ⟨g, 0, none⟩) (N + 1) cap)) (.slice (some ⟨bR, oR, none⟩) PC.length c7) PC GG CC ∧ (∀ q, (Value.slice (some ⟨g, 0, none⟩) (lnM T LW (j + 1)).length cap).ownBlock = some q → (Value.slice (some ⟨bR, oR, none⟩) PC.length c7).ownBlock ≠ some q ∧ ∀ i, i < PC.length → GG i ≠ q)) := fun aq cq at' ct bq bt g cap Y w8 hb Tq Tt FF hown8 hgrow hat => by
       have hbA := bel_alloc (Bel.refl Y) (.cells #[.int .i64 d.id, .slice aq LQ.length cq, .slice at' d.tags.length ct] 67)
       have hb9 := bel_step hb hbA
       rw [HLn1.out]
       have hG7 := Gr.add lneV HG.out hb hbA (d := ⟨d.id, LQ, d.tags⟩) (show LneV Y [.int .i64 d.id, .slice aq LQ.length cq, .slice at' d.tags.length ct] _ (bq ++ bt) from ⟨aq, cq, at', ct, bq, bt, rfl, id0, Hqz.out, hml, rfl, Tq, Tt⟩) FF HO.out.size (by rw [HNn.out]; exact hown8) (by rw [HNn.out]; exact hgrow) (by rw [HNn.out]; exact hatTl (by simpa using hat))
       rw [← HSu.out] at hG7
       have hR9 := HRWq.out.bel hb9
       have hR8 := hR9.kept hgrow (.inr (fun e => by
        cases h : (Value.slice v1 N c3).ownBlock with
        | none => rw [h] at e; exact nomatch e
        | some q => exact (havN q h).1 (by rw [e, h]))) (fun i hi e => (havN _ e.symm).2 i hi rfl)
       have hDw : ∀ q, q = D → q < lo ∨ True := fun _ _ => .inr trivial
       refine ⟨_, _, (HKeep.out _ _ hb9 hgrow).2.2.set 3 _ (by simp), hG7.far lneV (setCell_grownT w8 D 3 _) hDA, (onl_growT (HO.out.bel hb9) hgrow hownA).set (List.mem_singleton.2 rfl) 3 _, hR8.kept (setCell_grownT w8 D 3 _) (.inr HDR.out.1) (fun i hi e => HDR.out.2 i hi (by injection e)), fun q e => ?_⟩
       obtain rfl : g = q := by simpa [Value.ownBlock] using e
       rcases hat with h | h
       ·exact havN _ h
       ·subst h
        refine ⟨fun e2 => ?_, fun i hi e2 => ?_⟩
        ·have := (hR9.own.lt _ e2).2
         have hs : (Y.alloc (.cells #[.int .i64 d.id, .slice aq LQ.length cq, .slice at' d.tags.length ct] 67)).heap.size = Y.heap.size + 1 := by simp
         omega
        ·have := (hR9.lt hi).2
         have hs : (Y.alloc (.cells #[.int .i64 d.id, .slice aq LQ.length cq, .slice at' d.tags.length ct] 67)).heap.size = Y.heap.size + 1 := by simp
         omega
      clear hPl hxR R8 XMq XTq e0q e2q hbq0 hmp
      go_upto_region 11 with fail
      refine wp_region_noPanic ?_
      refine wp_region_held_drew (S := (fun w' => w'.cell? ⟨w.heap.size, 1, none⟩ = some (.slice (some ⟨b, off, none⟩) n1 c1) ∧ w'.cell? ⟨w.heap.size + 1, 0, none⟩ = some (.int .i64 z) ∧ w'.cell? ⟨w.heap.size + 1, 1, none⟩ = some (.int .i64 x) ∧ w'.cell? ⟨w.heap.size + 1, 2, none⟩ = some (.int .i64 y) ∧ w'.cell? ⟨b, off + k * 3, none⟩ = some (.int .i64 d.id) ∧ w'.cell? ⟨b, off + k * 3 + 2, none⟩ = some (.slice ra d.tags.length rc) ∧ w'.cell? ⟨bR, oR + j, none⟩ = some (.slice ap pc.length cp))) (by kernel_rfl) g1 (fun hHeld => ?_)
      have hb : Bel wq wq.drew := (Bel.refl wq).drew
      generalize wq.drew = Y0 at hHeld hb ⊢
      refine tk 0 hHeld ?_; refine tk 2 hHeld ?_; refine tk 3 hHeld ?_; refine tk 4 hHeld ?_; refine tk 5 hHeld ?_; refine tk 6 hHeld ?_; refine tk 7 hHeld ?_; refine tk 8 hHeld ?_; refine tk 9 hHeld ?_; refine tk 10 hHeld ?_; refine tk 11 hHeld ?_; refine tk 12 hHeld ?_
      refine tk 15 hHeld ?_; refine tk 16 hHeld ?_; refine tk 17 hHeld ?_; refine tk 18 hHeld ?_; refine tk 19 hHeld ?_; refine tk 20 hHeld ?_
      refine rd3 1 13 14 (fun K hK => ?_) (fun K hK => ?_) (fun K hK => ?_)
      ·have x3y := HD3.out _ (hb)
       go_simp
       refine hK.out _ _ (hHeld) ?_; clear hK K hHeld; intro hHeld
       try simp only [Act.put, List.setIfInBounds_toArray, List.set_cons_zero, List.set_cons_succ]
       clear x3y
       refine rd2 13 14 (fun K hK => ?_) (fun K hK => ?_)
       ·go_simp
        refine (l6Quantise_any ap pc.length cp (lx pc) (ly pc) z x y _ (Sl.pts (Tp.bel ptE hb)) (by omega) ht LQ HQz.out).mono ?_
        rintro e Y1 ⟨aq, cq, bq, rfl, Tq, Fq0, hbq⟩
        have Fq := Fq0.old hb.out.size
        have hb := bel_step hb hbq
        clear hbq Fq0
        go_wp2_with fail
        refine hK.out _ _ (HSS.out _ hb) ?_; clear hK K hHeld; intro hHeld
        try simp only [Act.put, List.setIfInBounds_toArray, List.set_cons_zero, List.set_cons_succ]
        refine rd1 14 (fun K hK => ?_)
        ·go_simp
         refine hK.out _ _ (HSS.out _ (bel_alloc hb _)) ?_; clear hK K hHeld; intro hHeld
         try simp only [Act.put, List.setIfInBounds_toArray, List.set_cons_zero, List.set_cons_succ]
         have hown0 := World.ownsRow_lit (base := wq.heap.size) (e := 134) (size := 2) Y1 #[] 0 hb.out.size (Nat.zero_le _) rfl
         have hXl : wq.heap.size ≤ Y1.heap.size := hb.out.size
         have hXs : Y1.heap.size < (Y1.alloc (.cells #[] 134)).heap.size := by simp
         have hXq : Y1.heap.size ∉ bq := fun h => by have := (Fq.new _ h).2; omega
         have Tq := Tq.bel ptE (bel_alloc (Bel.refl Y1) (.cells #[] 134))
         have Fq := Fq.bel (bel_alloc (Bel.refl Y1) (.cells #[] 134))
         have hb := bel_alloc hb (.cells #[] 134)
         generalize Y1.alloc (.cells #[] 134) = Y2 at *
         refine rd1 21 (fun K hK => ?_)
         ·refine step_flat_hat tagF (by decide) _ rfl _ _ _ rfl wq.heap.size 134 i4 (.agg #[.string ⟨#[]⟩, .string ⟨#[]⟩]) 32 Tryz.underlying57 hi4 hz4 hs4 hy4 rfl _ (by rfl) hown0 _ _ _ d.tags g2 (by rfl) (HGT.out.bel tagE (bel_step hBq hb)) rfl htg (by decide) hb.out.size ?_
          intro vv Y3 O6 hg6 hat6
          obtain ⟨at', ct, rfl⟩ := own_shape O6
          obtain ⟨_, _, bt, et, Tt, Mt⟩ := tagF.out O6 HTP.out
          injection et with et1 _ et3
          subst et1 et3
          have hbt : ∀ q ∈ bt, q = Y1.heap.size ∨ q = Y2.heap.size := fun q hq => by
           have h1 := flat_inT (n := d.tags.length) (c := ct) (fun h => h.1) Tt hq
           rcases hat6 with e | e
           ·rw [e] at h1; exact .inl (by simpa [Value.ownBlock] using h1.symm)
           ·rw [e] at h1; exact .inr (by simpa using h1.symm)
          have hA6 : Alike Y2 Y3 bq := alike_row hg6 (fun q hq => ⟨Tq.lt ptE q hq, fun e => hXq (by have e2 : q = Y1.heap.size := (by simpa [Value.ownBlock] using e); rw [← e2]; exact hq)⟩)
          have FF : Fresh wq Y3 (bq ++ bt) := (Fq.alike hA6).app (Mt.fresh (Nat.le_refl _)) (fun q hq hq2 => by
           rcases hbt q hq2 with e | e
           ·exact hXq (e ▸ hq)
           ·have := Tq.lt ptE q hq; omega)
          have Tq := Tq.alike ptE hA6
          have hb := bel_grow hb hg6 (fun q e => by have e2 : Y1.heap.size = q := (by simpa [Value.ownBlock] using e); omega)
          clear hown0 O6 hg6 hat6 hbt hA6 Mt Fq hXq
          refine hK.out _ _ (HSS.out _ hb) ?_; clear hK K hHeld; intro hHeld
          try simp only [Act.put, List.setIfInBounds_toArray, List.set_cons_zero, List.set_cons_succ]
          refine tk 22 hHeld ?_
          refine rd1 23 (fun K hK => ?_)
          ·go_simp
           refine hK.out _ _ (HSS.out _ (bel_alloc hb _)) ?_; clear hK K hHeld; intro hHeld
           try simp only [Act.put, List.setIfInBounds_toArray, List.set_cons_zero, List.set_cons_succ]
           have hbA := bel_alloc (Bel.refl Y3) (.cells #[.int .i64 d.id, .slice aq LQ.length cq, .slice at' d.tags.length ct] 67)
           have hown2 := World.ownsRow.alloc (own_bel hown hb) (.cells #[.int .i64 d.id, .slice aq LQ.length cq, .slice at' d.tags.length ct] 67)
           have hwq := hb.out.size
           have hwAq := HO.out.size
           refine rd1 24 (fun K hK => ?_)
           refine step_append_lies _ rfl _ _ _ rfl wA.heap.size 67 i3 (.agg #[.int .i64 0, .slice none 0 0, .slice none 0 0]) 3 56 Tryz.underlying31 hi3 hz3 hs3 hy3 rfl (by decide) _ _ _ (by rfl) hown2 ⟨Y3.heap.size, 0, none⟩ 1 1 [.int .i64 d.id, .slice aq LQ.length cq, .slice at' d.tags.length ct] (by rfl) (by rfl) (World.news_of_block (cs := #[.int .i64 d.id, .slice aq LQ.length cq, .slice at' d.tags.length ct]) (t := 67) (fr := (0, 0)) (heap_alloc_new Y3 _)) (by simp [Value.oneCell']) (by omega) (by unfold maxLen; omega) (by omega) (by simp; omega) (Y3.heap.size + 1) (by simp) ?_
           intro g cap w8 hown8 hgrow hat _
           obtain ⟨HK8, HX8, XD8⟩ := (show Hid _ ∧ Hid _ ∧ _ from HKeep.out _ _ (bel_step hb hbA) hgrow)
           have HS9 := HSet.out w8 (.slice (some ⟨g, 0, none⟩) (N + 1) cap) HK8.out
           have HFin := (show Hid _ from HStep.out aq cq at' ct bq bt g cap _ w8 hb Tq Tt FF hown8 hgrow hat)
           have d3 : w8.cell? ⟨D, 3, none⟩ = some (.slice v1 N c3) := XD8.cell 3 (by simp)
           have df := XD8.free 3
           have dl := XD8.lt
           clear hown8 hgrow hat hown2 Tq Tt FF hbA XD8
           refine hK.out _ _ (HK8.out) ?_; clear hK K hHeld; intro hHeld
           try simp only [Act.put, List.setIfInBounds_toArray, List.set_cons_zero, List.set_cons_succ]
           refine tk 25 hHeld ?_
           refine rd1 26 (fun K hK => ?_)
           go_simp
           refine hK.out _ _ (HS9) ?_; clear hK K hHeld; intro hHeld
           try simp only [Act.put, List.setIfInBounds_toArray, List.set_cons_zero, List.set_cons_succ]
           refine wpAnyH_done (by kernel_rfl) ?_ _
           refine NoPanic.normal ?_
           clear d3 df dl HS9
           go_wp2
           go_roundw
           case rel =>
            obtain ⟨R', f', G', hX', hO', hRW', hav'⟩ := HFin.out
            exact ⟨j + 1, _, cap, R', f', by omega, by go_num, G', hX', HL9.out, hO', hRW', hav'⟩
           case measure => simp [intOf]; omega
       ·go_simp
        refine hK.out _ _ (HSS.out _ (bel_alloc hb _)) ?_; clear hK K hHeld; intro hHeld
        try simp only [Act.put, List.setIfInBounds_toArray, List.set_cons_zero, List.set_cons_succ]
        have hown0 := World.ownsRow_lit (base := wq.heap.size) (e := 134) (size := 2) Y0 #[] 0 hb.out.size (Nat.zero_le _) rfl
        have hXl : wq.heap.size ≤ Y0.heap.size := hb.out.size
        have hXs : Y0.heap.size < (Y0.alloc (.cells #[] 134)).heap.size := by simp
        have hb := bel_alloc hb (.cells #[] 134)
        generalize Y0.alloc (.cells #[] 134) = Y1 at *
        refine rd1 13 (fun K hK => ?_)
        ·go_simp
         refine (l6Quantise_any ap pc.length cp (lx pc) (ly pc) z x y _ (Sl.pts (Tp.bel ptE hb)) (by omega) ht LQ HQz.out).mono ?_
         rintro e Y2 ⟨aq, cq, bq, rfl, Tq, Fq0, hbq⟩
         have Fq := Fq0.old hb.out.size
         have hown0 := own_bel hown0 hbq
         have hXq : Y0.heap.size ∉ bq := fun h => by have := (Fq0.new _ h).1; omega
         have hb := bel_step hb hbq
         clear hbq Fq0
         go_wp2_with fail
         refine hK.out _ _ (HSS.out _ hb) ?_; clear hK K hHeld; intro hHeld
         try simp only [Act.put, List.setIfInBounds_toArray, List.set_cons_zero, List.set_cons_succ]
         refine rd1 21 (fun K hK => ?_)
         ·refine step_flat_hat tagF (by decide) _ rfl _ _ _ rfl wq.heap.size 134 i4 (.agg #[.string ⟨#[]⟩, .string ⟨#[]⟩]) 32 Tryz.underlying57 hi4 hz4 hs4 hy4 rfl _ (by rfl) hown0 _ _ _ d.tags g2 (by rfl) (HGT.out.bel tagE (bel_step hBq hb)) rfl htg (by decide) hb.out.size ?_
          intro vv Y3 O6 hg6 hat6
          obtain ⟨at', ct, rfl⟩ := own_shape O6
          obtain ⟨_, _, bt, et, Tt, Mt⟩ := tagF.out O6 HTP.out
          injection et with et1 _ et3
          subst et1 et3
          have hbt : ∀ q ∈ bt, q = Y0.heap.size ∨ q = Y2.heap.size := fun q hq => by
           have h1 := flat_inT (n := d.tags.length) (c := ct) (fun h => h.1) Tt hq
           rcases hat6 with e | e
           ·rw [e] at h1; exact .inl (by simpa [Value.ownBlock] using h1.symm)
           ·rw [e] at h1; exact .inr (by simpa using h1.symm)
          have hA6 : Alike Y2 Y3 bq := alike_row hg6 (fun q hq => ⟨Tq.lt ptE q hq, fun e => hXq (by have e2 : q = Y0.heap.size := (by simpa [Value.ownBlock] using e); rw [← e2]; exact hq)⟩)
          have FF : Fresh wq Y3 (bq ++ bt) := (Fq.alike hA6).app (Mt.fresh (Nat.le_refl _)) (fun q hq hq2 => by
           rcases hbt q hq2 with e | e
           ·exact hXq (e ▸ hq)
           ·have := Tq.lt ptE q hq; omega)
          have Tq := Tq.alike ptE hA6
          have hb := bel_grow hb hg6 (fun q e => by have e2 : Y0.heap.size = q := (by simpa [Value.ownBlock] using e); omega)
          clear hown0 O6 hg6 hat6 hbt hA6 Mt Fq hXq
          refine hK.out _ _ (HSS.out _ hb) ?_; clear hK K hHeld; intro hHeld
          try simp only [Act.put, List.setIfInBounds_toArray, List.set_cons_zero, List.set_cons_succ]
          refine tk 22 hHeld ?_
          refine rd1 23 (fun K hK => ?_)
          ·go_simp
           refine hK.out _ _ (HSS.out _ (bel_alloc hb _)) ?_; clear hK K hHeld; intro hHeld
           try simp only [Act.put, List.setIfInBounds_toArray, List.set_cons_zero, List.set_cons_succ]
           have hbA := bel_alloc (Bel.refl Y3) (.cells #[.int .i64 d.id, .slice aq LQ.length cq, .slice at' d.tags.length ct] 67)
           have hown2 := World.ownsRow.alloc (own_bel hown hb) (.cells #[.int .i64 d.id, .slice aq LQ.length cq, .slice at' d.tags.length ct] 67)
           have hwq := hb.out.size
           have hwAq := HO.out.size
           refine rd1 24 (fun K hK => ?_)
           refine step_append_lies _ rfl _ _ _ rfl wA.heap.size 67 i3 (.agg #[.int .i64 0, .slice none 0 0, .slice none 0 0]) 3 56 Tryz.underlying31 hi3 hz3 hs3 hy3 rfl (by decide) _ _ _ (by rfl) hown2 ⟨Y3.heap.size, 0, none⟩ 1 1 [.int .i64 d.id, .slice aq LQ.length cq, .slice at' d.tags.length ct] (by rfl) (by rfl) (World.news_of_block (cs := #[.int .i64 d.id, .slice aq LQ.length cq, .slice at' d.tags.length ct]) (t := 67) (fr := (0, 0)) (heap_alloc_new Y3 _)) (by simp [Value.oneCell']) (by omega) (by unfold maxLen; omega) (by omega) (by simp; omega) (Y3.heap.size + 1) (by simp) ?_
           intro g cap w8 hown8 hgrow hat _
           obtain ⟨HK8, HX8, XD8⟩ := (show Hid _ ∧ Hid _ ∧ _ from HKeep.out _ _ (bel_step hb hbA) hgrow)
           have HS9 := HSet.out w8 (.slice (some ⟨g, 0, none⟩) (N + 1) cap) HK8.out
           have HFin := (show Hid _ from HStep.out aq cq at' ct bq bt g cap _ w8 hb Tq Tt FF hown8 hgrow hat)
           have d3 : w8.cell? ⟨D, 3, none⟩ = some (.slice v1 N c3) := XD8.cell 3 (by simp)
           have df := XD8.free 3
           have dl := XD8.lt
           clear hown8 hgrow hat hown2 Tq Tt FF hbA XD8
           refine hK.out _ _ (HK8.out) ?_; clear hK K hHeld; intro hHeld
           try simp only [Act.put, List.setIfInBounds_toArray, List.set_cons_zero, List.set_cons_succ]
           refine tk 25 hHeld ?_
           refine rd1 26 (fun K hK => ?_)
           go_simp
           refine hK.out _ _ (HS9) ?_; clear hK K hHeld; intro hHeld
           try simp only [Act.put, List.setIfInBounds_toArray, List.set_cons_zero, List.set_cons_succ]
           refine wpAnyH_done (by kernel_rfl) ?_ _
           refine NoPanic.normal ?_
           clear d3 df dl HS9
           go_wp2
           go_roundw
           case rel =>
            obtain ⟨R', f', G', hX', hO', hRW', hav'⟩ := HFin.out
            exact ⟨j + 1, _, cap, R', f', by omega, by go_num, G', hX', HL9.out, hO', hRW', hav'⟩
           case measure => simp [intOf]; omega
      ·go_simp
       refine (l6Quantise_any ap pc.length cp (lx pc) (ly pc) z x y _ (Sl.pts (Tp.bel ptE hb)) (by omega) ht LQ HQz.out).mono ?_
       rintro e Y1 ⟨aq, cq, bq, rfl, Tq, Fq0, hbq⟩
       have Fq := Fq0.old hb.out.size
       have hb := bel_step hb hbq
       clear hbq Fq0
       go_wp2_with fail
       refine hK.out _ _ (HSS.out _ hb) ?_; clear hK K hHeld; intro hHeld
       try simp only [Act.put, List.setIfInBounds_toArray, List.set_cons_zero, List.set_cons_succ]
       refine rd2 1 14 (fun K hK => ?_) (fun K hK => ?_)
       ·have x3y := HD3.out _ (hb)
        go_simp
        refine hK.out _ _ (hHeld) ?_; clear hK K hHeld; intro hHeld
        try simp only [Act.put, List.setIfInBounds_toArray, List.set_cons_zero, List.set_cons_succ]
        clear x3y
        refine rd1 14 (fun K hK => ?_)
        ·go_simp
         refine hK.out _ _ (HSS.out _ (bel_alloc hb _)) ?_; clear hK K hHeld; intro hHeld
         try simp only [Act.put, List.setIfInBounds_toArray, List.set_cons_zero, List.set_cons_succ]
         have hown0 := World.ownsRow_lit (base := wq.heap.size) (e := 134) (size := 2) Y1 #[] 0 hb.out.size (Nat.zero_le _) rfl
         have hXl : wq.heap.size ≤ Y1.heap.size := hb.out.size
         have hXs : Y1.heap.size < (Y1.alloc (.cells #[] 134)).heap.size := by simp
         have hXq : Y1.heap.size ∉ bq := fun h => by have := (Fq.new _ h).2; omega
         have Tq := Tq.bel ptE (bel_alloc (Bel.refl Y1) (.cells #[] 134))
         have Fq := Fq.bel (bel_alloc (Bel.refl Y1) (.cells #[] 134))
         have hb := bel_alloc hb (.cells #[] 134)
         generalize Y1.alloc (.cells #[] 134) = Y2 at *
         refine rd1 21 (fun K hK => ?_)
         ·refine step_flat_hat tagF (by decide) _ rfl _ _ _ rfl wq.heap.size 134 i4 (.agg #[.string ⟨#[]⟩, .string ⟨#[]⟩]) 32 Tryz.underlying57 hi4 hz4 hs4 hy4 rfl _ (by rfl) hown0 _ _ _ d.tags g2 (by rfl) (HGT.out.bel tagE (bel_step hBq hb)) rfl htg (by decide) hb.out.size ?_
          intro vv Y3 O6 hg6 hat6
          obtain ⟨at', ct, rfl⟩ := own_shape O6
          obtain ⟨_, _, bt, et, Tt, Mt⟩ := tagF.out O6 HTP.out
          injection et with et1 _ et3
          subst et1 et3
          have hbt : ∀ q ∈ bt, q = Y1.heap.size ∨ q = Y2.heap.size := fun q hq => by
           have h1 := flat_inT (n := d.tags.length) (c := ct) (fun h => h.1) Tt hq
           rcases hat6 with e | e
           ·rw [e] at h1; exact .inl (by simpa [Value.ownBlock] using h1.symm)
           ·rw [e] at h1; exact .inr (by simpa using h1.symm)
          have hA6 : Alike Y2 Y3 bq := alike_row hg6 (fun q hq => ⟨Tq.lt ptE q hq, fun e => hXq (by have e2 : q = Y1.heap.size := (by simpa [Value.ownBlock] using e); rw [← e2]; exact hq)⟩)
          have FF : Fresh wq Y3 (bq ++ bt) := (Fq.alike hA6).app (Mt.fresh (Nat.le_refl _)) (fun q hq hq2 => by
           rcases hbt q hq2 with e | e
           ·exact hXq (e ▸ hq)
           ·have := Tq.lt ptE q hq; omega)
          have Tq := Tq.alike ptE hA6
          have hb := bel_grow hb hg6 (fun q e => by have e2 : Y1.heap.size = q := (by simpa [Value.ownBlock] using e); omega)
          clear hown0 O6 hg6 hat6 hbt hA6 Mt Fq hXq
          refine hK.out _ _ (HSS.out _ hb) ?_; clear hK K hHeld; intro hHeld
          try simp only [Act.put, List.setIfInBounds_toArray, List.set_cons_zero, List.set_cons_succ]
          refine tk 22 hHeld ?_
          refine rd1 23 (fun K hK => ?_)
          ·go_simp
           refine hK.out _ _ (HSS.out _ (bel_alloc hb _)) ?_; clear hK K hHeld; intro hHeld
           try simp only [Act.put, List.setIfInBounds_toArray, List.set_cons_zero, List.set_cons_succ]
           have hbA := bel_alloc (Bel.refl Y3) (.cells #[.int .i64 d.id, .slice aq LQ.length cq, .slice at' d.tags.length ct] 67)
           have hown2 := World.ownsRow.alloc (own_bel hown hb) (.cells #[.int .i64 d.id, .slice aq LQ.length cq, .slice at' d.tags.length ct] 67)
           have hwq := hb.out.size
           have hwAq := HO.out.size
           refine rd1 24 (fun K hK => ?_)
           refine step_append_lies _ rfl _ _ _ rfl wA.heap.size 67 i3 (.agg #[.int .i64 0, .slice none 0 0, .slice none 0 0]) 3 56 Tryz.underlying31 hi3 hz3 hs3 hy3 rfl (by decide) _ _ _ (by rfl) hown2 ⟨Y3.heap.size, 0, none⟩ 1 1 [.int .i64 d.id, .slice aq LQ.length cq, .slice at' d.tags.length ct] (by rfl) (by rfl) (World.news_of_block (cs := #[.int .i64 d.id, .slice aq LQ.length cq, .slice at' d.tags.length ct]) (t := 67) (fr := (0, 0)) (heap_alloc_new Y3 _)) (by simp [Value.oneCell']) (by omega) (by unfold maxLen; omega) (by omega) (by simp; omega) (Y3.heap.size + 1) (by simp) ?_
           intro g cap w8 hown8 hgrow hat _
           obtain ⟨HK8, HX8, XD8⟩ := (show Hid _ ∧ Hid _ ∧ _ from HKeep.out _ _ (bel_step hb hbA) hgrow)
           have HS9 := HSet.out w8 (.slice (some ⟨g, 0, none⟩) (N + 1) cap) HK8.out
           have HFin := (show Hid _ from HStep.out aq cq at' ct bq bt g cap _ w8 hb Tq Tt FF hown8 hgrow hat)
           have d3 : w8.cell? ⟨D, 3, none⟩ = some (.slice v1 N c3) := XD8.cell 3 (by simp)
           have df := XD8.free 3
           have dl := XD8.lt
           clear hown8 hgrow hat hown2 Tq Tt FF hbA XD8
           refine hK.out _ _ (HK8.out) ?_; clear hK K hHeld; intro hHeld
           try simp only [Act.put, List.setIfInBounds_toArray, List.set_cons_zero, List.set_cons_succ]
           refine tk 25 hHeld ?_
           refine rd1 26 (fun K hK => ?_)
           go_simp
           refine hK.out _ _ (HS9) ?_; clear hK K hHeld; intro hHeld
           try simp only [Act.put, List.setIfInBounds_toArray, List.set_cons_zero, List.set_cons_succ]
           refine wpAnyH_done (by kernel_rfl) ?_ _
           refine NoPanic.normal ?_
           clear d3 df dl HS9
           go_wp2
           go_roundw
           case rel =>
            obtain ⟨R', f', G', hX', hO', hRW', hav'⟩ := HFin.out
            exact ⟨j + 1, _, cap, R', f', by omega, by go_num, G', hX', HL9.out, hO', hRW', hav'⟩
           case measure => simp [intOf]; omega
       ·go_simp
        refine hK.out _ _ (HSS.out _ (bel_alloc hb _)) ?_; clear hK K hHeld; intro hHeld
        try simp only [Act.put, List.setIfInBounds_toArray, List.set_cons_zero, List.set_cons_succ]
        have hown0 := World.ownsRow_lit (base := wq.heap.size) (e := 134) (size := 2) Y1 #[] 0 hb.out.size (Nat.zero_le _) rfl
        have hXl : wq.heap.size ≤ Y1.heap.size := hb.out.size
        have hXs : Y1.heap.size < (Y1.alloc (.cells #[] 134)).heap.size := by simp
        have hXq : Y1.heap.size ∉ bq := fun h => by have := (Fq.new _ h).2; omega
        have Tq := Tq.bel ptE (bel_alloc (Bel.refl Y1) (.cells #[] 134))
        have Fq := Fq.bel (bel_alloc (Bel.refl Y1) (.cells #[] 134))
        have hb := bel_alloc hb (.cells #[] 134)
        generalize Y1.alloc (.cells #[] 134) = Y2 at *
        refine rd2 1 21 (fun K hK => ?_) (fun K hK => ?_)
        ·have x3y := HD3.out _ (hb)
         go_simp
         refine hK.out _ _ (hHeld) ?_; clear hK K hHeld; intro hHeld
         try simp only [Act.put, List.setIfInBounds_toArray, List.set_cons_zero, List.set_cons_succ]
         clear x3y
         refine rd1 21 (fun K hK => ?_)
         ·refine step_flat_hat tagF (by decide) _ rfl _ _ _ rfl wq.heap.size 134 i4 (.agg #[.string ⟨#[]⟩, .string ⟨#[]⟩]) 32 Tryz.underlying57 hi4 hz4 hs4 hy4 rfl _ (by rfl) hown0 _ _ _ d.tags g2 (by rfl) (HGT.out.bel tagE (bel_step hBq hb)) rfl htg (by decide) hb.out.size ?_
          intro vv Y3 O6 hg6 hat6
          obtain ⟨at', ct, rfl⟩ := own_shape O6
          obtain ⟨_, _, bt, et, Tt, Mt⟩ := tagF.out O6 HTP.out
          injection et with et1 _ et3
          subst et1 et3
          have hbt : ∀ q ∈ bt, q = Y1.heap.size ∨ q = Y2.heap.size := fun q hq => by
           have h1 := flat_inT (n := d.tags.length) (c := ct) (fun h => h.1) Tt hq
           rcases hat6 with e | e
           ·rw [e] at h1; exact .inl (by simpa [Value.ownBlock] using h1.symm)
           ·rw [e] at h1; exact .inr (by simpa using h1.symm)
          have hA6 : Alike Y2 Y3 bq := alike_row hg6 (fun q hq => ⟨Tq.lt ptE q hq, fun e => hXq (by have e2 : q = Y1.heap.size := (by simpa [Value.ownBlock] using e); rw [← e2]; exact hq)⟩)
          have FF : Fresh wq Y3 (bq ++ bt) := (Fq.alike hA6).app (Mt.fresh (Nat.le_refl _)) (fun q hq hq2 => by
           rcases hbt q hq2 with e | e
           ·exact hXq (e ▸ hq)
           ·have := Tq.lt ptE q hq; omega)
          have Tq := Tq.alike ptE hA6
          have hb := bel_grow hb hg6 (fun q e => by have e2 : Y1.heap.size = q := (by simpa [Value.ownBlock] using e); omega)
          clear hown0 O6 hg6 hat6 hbt hA6 Mt Fq hXq
          refine hK.out _ _ (HSS.out _ hb) ?_; clear hK K hHeld; intro hHeld
          try simp only [Act.put, List.setIfInBounds_toArray, List.set_cons_zero, List.set_cons_succ]
          refine tk 22 hHeld ?_
          refine rd1 23 (fun K hK => ?_)
          ·go_simp
           refine hK.out _ _ (HSS.out _ (bel_alloc hb _)) ?_; clear hK K hHeld; intro hHeld
           try simp only [Act.put, List.setIfInBounds_toArray, List.set_cons_zero, List.set_cons_succ]
           have hbA := bel_alloc (Bel.refl Y3) (.cells #[.int .i64 d.id, .slice aq LQ.length cq, .slice at' d.tags.length ct] 67)
           have hown2 := World.ownsRow.alloc (own_bel hown hb) (.cells #[.int .i64 d.id, .slice aq LQ.length cq, .slice at' d.tags.length ct] 67)
           have hwq := hb.out.size
           have hwAq := HO.out.size
           refine rd1 24 (fun K hK => ?_)
           refine step_append_lies _ rfl _ _ _ rfl wA.heap.size 67 i3 (.agg #[.int .i64 0, .slice none 0 0, .slice none 0 0]) 3 56 Tryz.underlying31 hi3 hz3 hs3 hy3 rfl (by decide) _ _ _ (by rfl) hown2 ⟨Y3.heap.size, 0, none⟩ 1 1 [.int .i64 d.id, .slice aq LQ.length cq, .slice at' d.tags.length ct] (by rfl) (by rfl) (World.news_of_block (cs := #[.int .i64 d.id, .slice aq LQ.length cq, .slice at' d.tags.length ct]) (t := 67) (fr := (0, 0)) (heap_alloc_new Y3 _)) (by simp [Value.oneCell']) (by omega) (by unfold maxLen; omega) (by omega) (by simp; omega) (Y3.heap.size + 1) (by simp) ?_
           intro g cap w8 hown8 hgrow hat _
           obtain ⟨HK8, HX8, XD8⟩ := (show Hid _ ∧ Hid _ ∧ _ from HKeep.out _ _ (bel_step hb hbA) hgrow)
           have HS9 := HSet.out w8 (.slice (some ⟨g, 0, none⟩) (N + 1) cap) HK8.out
           have HFin := (show Hid _ from HStep.out aq cq at' ct bq bt g cap _ w8 hb Tq Tt FF hown8 hgrow hat)
           have d3 : w8.cell? ⟨D, 3, none⟩ = some (.slice v1 N c3) := XD8.cell 3 (by simp)
           have df := XD8.free 3
           have dl := XD8.lt
           clear hown8 hgrow hat hown2 Tq Tt FF hbA XD8
           refine hK.out _ _ (HK8.out) ?_; clear hK K hHeld; intro hHeld
           try simp only [Act.put, List.setIfInBounds_toArray, List.set_cons_zero, List.set_cons_succ]
           refine tk 25 hHeld ?_
           refine rd1 26 (fun K hK => ?_)
           go_simp
           refine hK.out _ _ (HS9) ?_; clear hK K hHeld; intro hHeld
           try simp only [Act.put, List.setIfInBounds_toArray, List.set_cons_zero, List.set_cons_succ]
           refine wpAnyH_done (by kernel_rfl) ?_ _
           refine NoPanic.normal ?_
           clear d3 df dl HS9
           go_wp2
           go_roundw
           case rel =>
            obtain ⟨R', f', G', hX', hO', hRW', hav'⟩ := HFin.out
            exact ⟨j + 1, _, cap, R', f', by omega, by go_num, G', hX', HL9.out, hO', hRW', hav'⟩
           case measure => simp [intOf]; omega
        ·refine step_flat_hat tagF (by decide) _ rfl _ _ _ rfl wq.heap.size 134 i4 (.agg #[.string ⟨#[]⟩, .string ⟨#[]⟩]) 32 Tryz.underlying57 hi4 hz4 hs4 hy4 rfl _ (by rfl) hown0 _ _ _ d.tags g2 (by rfl) (HGT.out.bel tagE (bel_step hBq hb)) rfl htg (by decide) hb.out.size ?_
         intro vv Y3 O6 hg6 hat6
         obtain ⟨at', ct, rfl⟩ := own_shape O6
         obtain ⟨_, _, bt, et, Tt, Mt⟩ := tagF.out O6 HTP.out
         injection et with et1 _ et3
         subst et1 et3
         have hbt : ∀ q ∈ bt, q = Y1.heap.size ∨ q = Y2.heap.size := fun q hq => by
          have h1 := flat_inT (n := d.tags.length) (c := ct) (fun h => h.1) Tt hq
          rcases hat6 with e | e
          ·rw [e] at h1; exact .inl (by simpa [Value.ownBlock] using h1.symm)
          ·rw [e] at h1; exact .inr (by simpa using h1.symm)
         have hA6 : Alike Y2 Y3 bq := alike_row hg6 (fun q hq => ⟨Tq.lt ptE q hq, fun e => hXq (by have e2 : q = Y1.heap.size := (by simpa [Value.ownBlock] using e); rw [← e2]; exact hq)⟩)
         have FF : Fresh wq Y3 (bq ++ bt) := (Fq.alike hA6).app (Mt.fresh (Nat.le_refl _)) (fun q hq hq2 => by
          rcases hbt q hq2 with e | e
          ·exact hXq (e ▸ hq)
          ·have := Tq.lt ptE q hq; omega)
         have Tq := Tq.alike ptE hA6
         have hb := bel_grow hb hg6 (fun q e => by have e2 : Y1.heap.size = q := (by simpa [Value.ownBlock] using e); omega)
         clear hown0 O6 hg6 hat6 hbt hA6 Mt Fq hXq
         refine hK.out _ _ (HSS.out _ hb) ?_; clear hK K hHeld; intro hHeld
         try simp only [Act.put, List.setIfInBounds_toArray, List.set_cons_zero, List.set_cons_succ]
         refine tk 22 hHeld ?_
         refine rd2 1 23 (fun K hK => ?_) (fun K hK => ?_)
         ·have x3y := HD3.out _ (hb)
          go_simp
          refine hK.out _ _ (hHeld) ?_; clear hK K hHeld; intro hHeld
          try simp only [Act.put, List.setIfInBounds_toArray, List.set_cons_zero, List.set_cons_succ]
          clear x3y
          refine rd1 23 (fun K hK => ?_)
          ·go_simp
           refine hK.out _ _ (HSS.out _ (bel_alloc hb _)) ?_; clear hK K hHeld; intro hHeld
           try simp only [Act.put, List.setIfInBounds_toArray, List.set_cons_zero, List.set_cons_succ]
           have hbA := bel_alloc (Bel.refl Y3) (.cells #[.int .i64 d.id, .slice aq LQ.length cq, .slice at' d.tags.length ct] 67)
           have hown2 := World.ownsRow.alloc (own_bel hown hb) (.cells #[.int .i64 d.id, .slice aq LQ.length cq, .slice at' d.tags.length ct] 67)
           have hwq := hb.out.size
           have hwAq := HO.out.size
           refine rd1 24 (fun K hK => ?_)
           refine step_append_lies _ rfl _ _ _ rfl wA.heap.size 67 i3 (.agg #[.int .i64 0, .slice none 0 0, .slice none 0 0]) 3 56 Tryz.underlying31 hi3 hz3 hs3 hy3 rfl (by decide) _ _ _ (by rfl) hown2 ⟨Y3.heap.size, 0, none⟩ 1 1 [.int .i64 d.id, .slice aq LQ.length cq, .slice at' d.tags.length ct] (by rfl) (by rfl) (World.news_of_block (cs := #[.int .i64 d.id, .slice aq LQ.length cq, .slice at' d.tags.length ct]) (t := 67) (fr := (0, 0)) (heap_alloc_new Y3 _)) (by simp [Value.oneCell']) (by omega) (by unfold maxLen; omega) (by omega) (by simp; omega) (Y3.heap.size + 1) (by simp) ?_
           intro g cap w8 hown8 hgrow hat _
           obtain ⟨HK8, HX8, XD8⟩ := (show Hid _ ∧ Hid _ ∧ _ from HKeep.out _ _ (bel_step hb hbA) hgrow)
           have HS9 := HSet.out w8 (.slice (some ⟨g, 0, none⟩) (N + 1) cap) HK8.out
           have HFin := (show Hid _ from HStep.out aq cq at' ct bq bt g cap _ w8 hb Tq Tt FF hown8 hgrow hat)
           have d3 : w8.cell? ⟨D, 3, none⟩ = some (.slice v1 N c3) := XD8.cell 3 (by simp)
           have df := XD8.free 3
           have dl := XD8.lt
           clear hown8 hgrow hat hown2 Tq Tt FF hbA XD8
           refine hK.out _ _ (HK8.out) ?_; clear hK K hHeld; intro hHeld
           try simp only [Act.put, List.setIfInBounds_toArray, List.set_cons_zero, List.set_cons_succ]
           refine tk 25 hHeld ?_
           refine rd1 26 (fun K hK => ?_)
           go_simp
           refine hK.out _ _ (HS9) ?_; clear hK K hHeld; intro hHeld
           try simp only [Act.put, List.setIfInBounds_toArray, List.set_cons_zero, List.set_cons_succ]
           refine wpAnyH_done (by kernel_rfl) ?_ _
           refine NoPanic.normal ?_
           clear d3 df dl HS9
           go_wp2
           go_roundw
           case rel =>
            obtain ⟨R', f', G', hX', hO', hRW', hav'⟩ := HFin.out
            exact ⟨j + 1, _, cap, R', f', by omega, by go_num, G', hX', HL9.out, hO', hRW', hav'⟩
           case measure => simp [intOf]; omega
         ·go_simp
          refine hK.out _ _ (HSS.out _ (bel_alloc hb _)) ?_; clear hK K hHeld; intro hHeld
          try simp only [Act.put, List.setIfInBounds_toArray, List.set_cons_zero, List.set_cons_succ]
          refine rd1 1 (fun K hK => ?_)
          ·have x3y := HD3.out _ (bel_alloc hb (.cells #[.int .i64 d.id, .slice aq LQ.length cq, .slice at' d.tags.length ct] 67))
           go_simp
           refine hK.out _ _ (hHeld) ?_; clear hK K hHeld; intro hHeld
           try simp only [Act.put, List.setIfInBounds_toArray, List.set_cons_zero, List.set_cons_succ]
           clear x3y
           have hbA := bel_alloc (Bel.refl Y3) (.cells #[.int .i64 d.id, .slice aq LQ.length cq, .slice at' d.tags.length ct] 67)
           have hown2 := World.ownsRow.alloc (own_bel hown hb) (.cells #[.int .i64 d.id, .slice aq LQ.length cq, .slice at' d.tags.length ct] 67)
           have hwq := hb.out.size
           have hwAq := HO.out.size
           refine rd1 24 (fun K hK => ?_)
           refine step_append_lies _ rfl _ _ _ rfl wA.heap.size 67 i3 (.agg #[.int .i64 0, .slice none 0 0, .slice none 0 0]) 3 56 Tryz.underlying31 hi3 hz3 hs3 hy3 rfl (by decide) _ _ _ (by rfl) hown2 ⟨Y3.heap.size, 0, none⟩ 1 1 [.int .i64 d.id, .slice aq LQ.length cq, .slice at' d.tags.length ct] (by rfl) (by rfl) (World.news_of_block (cs := #[.int .i64 d.id, .slice aq LQ.length cq, .slice at' d.tags.length ct]) (t := 67) (fr := (0, 0)) (heap_alloc_new Y3 _)) (by simp [Value.oneCell']) (by omega) (by unfold maxLen; omega) (by omega) (by simp; omega) (Y3.heap.size + 1) (by simp) ?_
           intro g cap w8 hown8 hgrow hat _
           obtain ⟨HK8, HX8, XD8⟩ := (show Hid _ ∧ Hid _ ∧ _ from HKeep.out _ _ (bel_step hb hbA) hgrow)
           have HS9 := HSet.out w8 (.slice (some ⟨g, 0, none⟩) (N + 1) cap) HK8.out
           have HFin := (show Hid _ from HStep.out aq cq at' ct bq bt g cap _ w8 hb Tq Tt FF hown8 hgrow hat)
           have d3 : w8.cell? ⟨D, 3, none⟩ = some (.slice v1 N c3) := XD8.cell 3 (by simp)
           have df := XD8.free 3
           have dl := XD8.lt
           clear hown8 hgrow hat hown2 Tq Tt FF hbA XD8
           refine hK.out _ _ (HK8.out) ?_; clear hK K hHeld; intro hHeld
           try simp only [Act.put, List.setIfInBounds_toArray, List.set_cons_zero, List.set_cons_succ]
           refine tk 25 hHeld ?_
           refine rd1 26 (fun K hK => ?_)
           go_simp
           refine hK.out _ _ (HS9) ?_; clear hK K hHeld; intro hHeld
           try simp only [Act.put, List.setIfInBounds_toArray, List.set_cons_zero, List.set_cons_succ]
           refine wpAnyH_done (by kernel_rfl) ?_ _
           refine NoPanic.normal ?_
           clear d3 df dl HS9
           go_wp2
           go_roundw
           case rel =>
            obtain ⟨R', f', G', hX', hO', hRW', hav'⟩ := HFin.out
            exact ⟨j + 1, _, cap, R', f', by omega, by go_num, G', hX', HL9.out, hO', hRW', hav'⟩
           case measure => simp [intOf]; omega
      ·go_simp
       refine hK.out _ _ (HSS.out _ (bel_alloc hb _)) ?_; clear hK K hHeld; intro hHeld
       try simp only [Act.put, List.setIfInBounds_toArray, List.set_cons_zero, List.set_cons_succ]
       have hown0 := World.ownsRow_lit (base := wq.heap.size) (e := 134) (size := 2) Y0 #[] 0 hb.out.size (Nat.zero_le _) rfl
       have hXl : wq.heap.size ≤ Y0.heap.size := hb.out.size
       have hXs : Y0.heap.size < (Y0.alloc (.cells #[] 134)).heap.size := by simp
       have hb := bel_alloc hb (.cells #[] 134)
       generalize Y0.alloc (.cells #[] 134) = Y1 at *
       refine rd2 1 13 (fun K hK => ?_) (fun K hK => ?_)
       ·have x3y := HD3.out _ (hb)
        go_simp
        refine hK.out _ _ (hHeld) ?_; clear hK K hHeld; intro hHeld
        try simp only [Act.put, List.setIfInBounds_toArray, List.set_cons_zero, List.set_cons_succ]
        clear x3y
        refine rd1 13 (fun K hK => ?_)
        ·go_simp
         refine (l6Quantise_any ap pc.length cp (lx pc) (ly pc) z x y _ (Sl.pts (Tp.bel ptE hb)) (by omega) ht LQ HQz.out).mono ?_
         rintro e Y2 ⟨aq, cq, bq, rfl, Tq, Fq0, hbq⟩
         have Fq := Fq0.old hb.out.size
         have hown0 := own_bel hown0 hbq
         have hXq : Y0.heap.size ∉ bq := fun h => by have := (Fq0.new _ h).1; omega
         have hb := bel_step hb hbq
         clear hbq Fq0
         go_wp2_with fail
         refine hK.out _ _ (HSS.out _ hb) ?_; clear hK K hHeld; intro hHeld
         try simp only [Act.put, List.setIfInBounds_toArray, List.set_cons_zero, List.set_cons_succ]
         refine rd1 21 (fun K hK => ?_)
         ·refine step_flat_hat tagF (by decide) _ rfl _ _ _ rfl wq.heap.size 134 i4 (.agg #[.string ⟨#[]⟩, .string ⟨#[]⟩]) 32 Tryz.underlying57 hi4 hz4 hs4 hy4 rfl _ (by rfl) hown0 _ _ _ d.tags g2 (by rfl) (HGT.out.bel tagE (bel_step hBq hb)) rfl htg (by decide) hb.out.size ?_
          intro vv Y3 O6 hg6 hat6
          obtain ⟨at', ct, rfl⟩ := own_shape O6
          obtain ⟨_, _, bt, et, Tt, Mt⟩ := tagF.out O6 HTP.out
          injection et with et1 _ et3
          subst et1 et3
          have hbt : ∀ q ∈ bt, q = Y0.heap.size ∨ q = Y2.heap.size := fun q hq => by
           have h1 := flat_inT (n := d.tags.length) (c := ct) (fun h => h.1) Tt hq
           rcases hat6 with e | e
           ·rw [e] at h1; exact .inl (by simpa [Value.ownBlock] using h1.symm)
           ·rw [e] at h1; exact .inr (by simpa using h1.symm)
          have hA6 : Alike Y2 Y3 bq := alike_row hg6 (fun q hq => ⟨Tq.lt ptE q hq, fun e => hXq (by have e2 : q = Y0.heap.size := (by simpa [Value.ownBlock] using e); rw [← e2]; exact hq)⟩)
          have FF : Fresh wq Y3 (bq ++ bt) := (Fq.alike hA6).app (Mt.fresh (Nat.le_refl _)) (fun q hq hq2 => by
           rcases hbt q hq2 with e | e
           ·exact hXq (e ▸ hq)
           ·have := Tq.lt ptE q hq; omega)
          have Tq := Tq.alike ptE hA6
          have hb := bel_grow hb hg6 (fun q e => by have e2 : Y0.heap.size = q := (by simpa [Value.ownBlock] using e); omega)
          clear hown0 O6 hg6 hat6 hbt hA6 Mt Fq hXq
          refine hK.out _ _ (HSS.out _ hb) ?_; clear hK K hHeld; intro hHeld
          try simp only [Act.put, List.setIfInBounds_toArray, List.set_cons_zero, List.set_cons_succ]
          refine tk 22 hHeld ?_
          refine rd1 23 (fun K hK => ?_)
          ·go_simp
           refine hK.out _ _ (HSS.out _ (bel_alloc hb _)) ?_; clear hK K hHeld; intro hHeld
           try simp only [Act.put, List.setIfInBounds_toArray, List.set_cons_zero, List.set_cons_succ]
           have hbA := bel_alloc (Bel.refl Y3) (.cells #[.int .i64 d.id, .slice aq LQ.length cq, .slice at' d.tags.length ct] 67)
           have hown2 := World.ownsRow.alloc (own_bel hown hb) (.cells #[.int .i64 d.id, .slice aq LQ.length cq, .slice at' d.tags.length ct] 67)
           have hwq := hb.out.size
           have hwAq := HO.out.size
           refine rd1 24 (fun K hK => ?_)
           refine step_append_lies _ rfl _ _ _ rfl wA.heap.size 67 i3 (.agg #[.int .i64 0, .slice none 0 0, .slice none 0 0]) 3 56 Tryz.underlying31 hi3 hz3 hs3 hy3 rfl (by decide) _ _ _ (by rfl) hown2 ⟨Y3.heap.size, 0, none⟩ 1 1 [.int .i64 d.id, .slice aq LQ.length cq, .slice at' d.tags.length ct] (by rfl) (by rfl) (World.news_of_block (cs := #[.int .i64 d.id, .slice aq LQ.length cq, .slice at' d.tags.length ct]) (t := 67) (fr := (0, 0)) (heap_alloc_new Y3 _)) (by simp [Value.oneCell']) (by omega) (by unfold maxLen; omega) (by omega) (by simp; omega) (Y3.heap.size + 1) (by simp) ?_
           intro g cap w8 hown8 hgrow hat _
           obtain ⟨HK8, HX8, XD8⟩ := (show Hid _ ∧ Hid _ ∧ _ from HKeep.out _ _ (bel_step hb hbA) hgrow)
           have HS9 := HSet.out w8 (.slice (some ⟨g, 0, none⟩) (N + 1) cap) HK8.out
           have HFin := (show Hid _ from HStep.out aq cq at' ct bq bt g cap _ w8 hb Tq Tt FF hown8 hgrow hat)
           have d3 : w8.cell? ⟨D, 3, none⟩ = some (.slice v1 N c3) := XD8.cell 3 (by simp)
           have df := XD8.free 3
           have dl := XD8.lt
           clear hown8 hgrow hat hown2 Tq Tt FF hbA XD8
           refine hK.out _ _ (HK8.out) ?_; clear hK K hHeld; intro hHeld
           try simp only [Act.put, List.setIfInBounds_toArray, List.set_cons_zero, List.set_cons_succ]
           refine tk 25 hHeld ?_
           refine rd1 26 (fun K hK => ?_)
           go_simp
           refine hK.out _ _ (HS9) ?_; clear hK K hHeld; intro hHeld
           try simp only [Act.put, List.setIfInBounds_toArray, List.set_cons_zero, List.set_cons_succ]
           refine wpAnyH_done (by kernel_rfl) ?_ _
           refine NoPanic.normal ?_
           clear d3 df dl HS9
           go_wp2
           go_roundw
           case rel =>
            obtain ⟨R', f', G', hX', hO', hRW', hav'⟩ := HFin.out
            exact ⟨j + 1, _, cap, R', f', by omega, by go_num, G', hX', HL9.out, hO', hRW', hav'⟩
           case measure => simp [intOf]; omega
       ·go_simp
        refine (l6Quantise_any ap pc.length cp (lx pc) (ly pc) z x y _ (Sl.pts (Tp.bel ptE hb)) (by omega) ht LQ HQz.out).mono ?_
        rintro e Y2 ⟨aq, cq, bq, rfl, Tq, Fq0, hbq⟩
        have Fq := Fq0.old hb.out.size
        have hown0 := own_bel hown0 hbq
        have hXq : Y0.heap.size ∉ bq := fun h => by have := (Fq0.new _ h).1; omega
        have hb := bel_step hb hbq
        clear hbq Fq0
        go_wp2_with fail
        refine hK.out _ _ (HSS.out _ hb) ?_; clear hK K hHeld; intro hHeld
        try simp only [Act.put, List.setIfInBounds_toArray, List.set_cons_zero, List.set_cons_succ]
        refine rd2 1 21 (fun K hK => ?_) (fun K hK => ?_)
        ·have x3y := HD3.out _ (hb)
         go_simp
         refine hK.out _ _ (hHeld) ?_; clear hK K hHeld; intro hHeld
         try simp only [Act.put, List.setIfInBounds_toArray, List.set_cons_zero, List.set_cons_succ]
         clear x3y
         refine rd1 21 (fun K hK => ?_)
         ·refine step_flat_hat tagF (by decide) _ rfl _ _ _ rfl wq.heap.size 134 i4 (.agg #[.string ⟨#[]⟩, .string ⟨#[]⟩]) 32 Tryz.underlying57 hi4 hz4 hs4 hy4 rfl _ (by rfl) hown0 _ _ _ d.tags g2 (by rfl) (HGT.out.bel tagE (bel_step hBq hb)) rfl htg (by decide) hb.out.size ?_
          intro vv Y3 O6 hg6 hat6
          obtain ⟨at', ct, rfl⟩ := own_shape O6
          obtain ⟨_, _, bt, et, Tt, Mt⟩ := tagF.out O6 HTP.out
          injection et with et1 _ et3
          subst et1 et3
          have hbt : ∀ q ∈ bt, q = Y0.heap.size ∨ q = Y2.heap.size := fun q hq => by
           have h1 := flat_inT (n := d.tags.length) (c := ct) (fun h => h.1) Tt hq
           rcases hat6 with e | e
           ·rw [e] at h1; exact .inl (by simpa [Value.ownBlock] using h1.symm)
           ·rw [e] at h1; exact .inr (by simpa using h1.symm)
          have hA6 : Alike Y2 Y3 bq := alike_row hg6 (fun q hq => ⟨Tq.lt ptE q hq, fun e => hXq (by have e2 : q = Y0.heap.size := (by simpa [Value.ownBlock] using e); rw [← e2]; exact hq)⟩)
          have FF : Fresh wq Y3 (bq ++ bt) := (Fq.alike hA6).app (Mt.fresh (Nat.le_refl _)) (fun q hq hq2 => by
           rcases hbt q hq2 with e | e
           ·exact hXq (e ▸ hq)
           ·have := Tq.lt ptE q hq; omega)
          have Tq := Tq.alike ptE hA6
          have hb := bel_grow hb hg6 (fun q e => by have e2 : Y0.heap.size = q := (by simpa [Value.ownBlock] using e); omega)
          clear hown0 O6 hg6 hat6 hbt hA6 Mt Fq hXq
          refine hK.out _ _ (HSS.out _ hb) ?_; clear hK K hHeld; intro hHeld
          try simp only [Act.put, List.setIfInBounds_toArray, List.set_cons_zero, List.set_cons_succ]
          refine tk 22 hHeld ?_
          refine rd1 23 (fun K hK => ?_)
          ·go_simp
           refine hK.out _ _ (HSS.out _ (bel_alloc hb _)) ?_; clear hK K hHeld; intro hHeld
           try simp only [Act.put, List.setIfInBounds_toArray, List.set_cons_zero, List.set_cons_succ]
           have hbA := bel_alloc (Bel.refl Y3) (.cells #[.int .i64 d.id, .slice aq LQ.length cq, .slice at' d.tags.length ct] 67)
           have hown2 := World.ownsRow.alloc (own_bel hown hb) (.cells #[.int .i64 d.id, .slice aq LQ.length cq, .slice at' d.tags.length ct] 67)
           have hwq := hb.out.size
           have hwAq := HO.out.size
           refine rd1 24 (fun K hK => ?_)
           refine step_append_lies _ rfl _ _ _ rfl wA.heap.size 67 i3 (.agg #[.int .i64 0, .slice none 0 0, .slice none 0 0]) 3 56 Tryz.underlying31 hi3 hz3 hs3 hy3 rfl (by decide) _ _ _ (by rfl) hown2 ⟨Y3.heap.size, 0, none⟩ 1 1 [.int .i64 d.id, .slice aq LQ.length cq, .slice at' d.tags.length ct] (by rfl) (by rfl) (World.news_of_block (cs := #[.int .i64 d.id, .slice aq LQ.length cq, .slice at' d.tags.length ct]) (t := 67) (fr := (0, 0)) (heap_alloc_new Y3 _)) (by simp [Value.oneCell']) (by omega) (by unfold maxLen; omega) (by omega) (by simp; omega) (Y3.heap.size + 1) (by simp) ?_
           intro g cap w8 hown8 hgrow hat _
           obtain ⟨HK8, HX8, XD8⟩ := (show Hid _ ∧ Hid _ ∧ _ from HKeep.out _ _ (bel_step hb hbA) hgrow)
           have HS9 := HSet.out w8 (.slice (some ⟨g, 0, none⟩) (N + 1) cap) HK8.out
           have HFin := (show Hid _ from HStep.out aq cq at' ct bq bt g cap _ w8 hb Tq Tt FF hown8 hgrow hat)
           have d3 : w8.cell? ⟨D, 3, none⟩ = some (.slice v1 N c3) := XD8.cell 3 (by simp)
           have df := XD8.free 3
           have dl := XD8.lt
           clear hown8 hgrow hat hown2 Tq Tt FF hbA XD8
           refine hK.out _ _ (HK8.out) ?_; clear hK K hHeld; intro hHeld
           try simp only [Act.put, List.setIfInBounds_toArray, List.set_cons_zero, List.set_cons_succ]
           refine tk 25 hHeld ?_
           refine rd1 26 (fun K hK => ?_)
           go_simp
           refine hK.out _ _ (HS9) ?_; clear hK K hHeld; intro hHeld
           try simp only [Act.put, List.setIfInBounds_toArray, List.set_cons_zero, List.set_cons_succ]
           refine wpAnyH_done (by kernel_rfl) ?_ _
           refine NoPanic.normal ?_
           clear d3 df dl HS9
           go_wp2
           go_roundw
           case rel =>
            obtain ⟨R', f', G', hX', hO', hRW', hav'⟩ := HFin.out
            exact ⟨j + 1, _, cap, R', f', by omega, by go_num, G', hX', HL9.out, hO', hRW', hav'⟩
           case measure => simp [intOf]; omega
        ·refine step_flat_hat tagF (by decide) _ rfl _ _ _ rfl wq.heap.size 134 i4 (.agg #[.string ⟨#[]⟩, .string ⟨#[]⟩]) 32 Tryz.underlying57 hi4 hz4 hs4 hy4 rfl _ (by rfl) hown0 _ _ _ d.tags g2 (by rfl) (HGT.out.bel tagE (bel_step hBq hb)) rfl htg (by decide) hb.out.size ?_
         intro vv Y3 O6 hg6 hat6
         obtain ⟨at', ct, rfl⟩ := own_shape O6
         obtain ⟨_, _, bt, et, Tt, Mt⟩ := tagF.out O6 HTP.out
         injection et with et1 _ et3
         subst et1 et3
         have hbt : ∀ q ∈ bt, q = Y0.heap.size ∨ q = Y2.heap.size := fun q hq => by
          have h1 := flat_inT (n := d.tags.length) (c := ct) (fun h => h.1) Tt hq
          rcases hat6 with e | e
          ·rw [e] at h1; exact .inl (by simpa [Value.ownBlock] using h1.symm)
          ·rw [e] at h1; exact .inr (by simpa using h1.symm)
         have hA6 : Alike Y2 Y3 bq := alike_row hg6 (fun q hq => ⟨Tq.lt ptE q hq, fun e => hXq (by have e2 : q = Y0.heap.size := (by simpa [Value.ownBlock] using e); rw [← e2]; exact hq)⟩)
         have FF : Fresh wq Y3 (bq ++ bt) := (Fq.alike hA6).app (Mt.fresh (Nat.le_refl _)) (fun q hq hq2 => by
          rcases hbt q hq2 with e | e
          ·exact hXq (e ▸ hq)
          ·have := Tq.lt ptE q hq; omega)
         have Tq := Tq.alike ptE hA6
         have hb := bel_grow hb hg6 (fun q e => by have e2 : Y0.heap.size = q := (by simpa [Value.ownBlock] using e); omega)
         clear hown0 O6 hg6 hat6 hbt hA6 Mt Fq hXq
         refine hK.out _ _ (HSS.out _ hb) ?_; clear hK K hHeld; intro hHeld
         try simp only [Act.put, List.setIfInBounds_toArray, List.set_cons_zero, List.set_cons_succ]
         refine tk 22 hHeld ?_
         refine rd2 1 23 (fun K hK => ?_) (fun K hK => ?_)
         ·have x3y := HD3.out _ (hb)
          go_simp
          refine hK.out _ _ (hHeld) ?_; clear hK K hHeld; intro hHeld
          try simp only [Act.put, List.setIfInBounds_toArray, List.set_cons_zero, List.set_cons_succ]
          clear x3y
          refine rd1 23 (fun K hK => ?_)
          ·go_simp
           refine hK.out _ _ (HSS.out _ (bel_alloc hb _)) ?_; clear hK K hHeld; intro hHeld
           try simp only [Act.put, List.setIfInBounds_toArray, List.set_cons_zero, List.set_cons_succ]
           have hbA := bel_alloc (Bel.refl Y3) (.cells #[.int .i64 d.id, .slice aq LQ.length cq, .slice at' d.tags.length ct] 67)
           have hown2 := World.ownsRow.alloc (own_bel hown hb) (.cells #[.int .i64 d.id, .slice aq LQ.length cq, .slice at' d.tags.length ct] 67)
           have hwq := hb.out.size
           have hwAq := HO.out.size
           refine rd1 24 (fun K hK => ?_)
           refine step_append_lies _ rfl _ _ _ rfl wA.heap.size 67 i3 (.agg #[.int .i64 0, .slice none 0 0, .slice none 0 0]) 3 56 Tryz.underlying31 hi3 hz3 hs3 hy3 rfl (by decide) _ _ _ (by rfl) hown2 ⟨Y3.heap.size, 0, none⟩ 1 1 [.int .i64 d.id, .slice aq LQ.length cq, .slice at' d.tags.length ct] (by rfl) (by rfl) (World.news_of_block (cs := #[.int .i64 d.id, .slice aq LQ.length cq, .slice at' d.tags.length ct]) (t := 67) (fr := (0, 0)) (heap_alloc_new Y3 _)) (by simp [Value.oneCell']) (by omega) (by unfold maxLen; omega) (by omega) (by simp; omega) (Y3.heap.size + 1) (by simp) ?_
           intro g cap w8 hown8 hgrow hat _
           obtain ⟨HK8, HX8, XD8⟩ := (show Hid _ ∧ Hid _ ∧ _ from HKeep.out _ _ (bel_step hb hbA) hgrow)
           have HS9 := HSet.out w8 (.slice (some ⟨g, 0, none⟩) (N + 1) cap) HK8.out
           have HFin := (show Hid _ from HStep.out aq cq at' ct bq bt g cap _ w8 hb Tq Tt FF hown8 hgrow hat)
           have d3 : w8.cell? ⟨D, 3, none⟩ = some (.slice v1 N c3) := XD8.cell 3 (by simp)
           have df := XD8.free 3
           have dl := XD8.lt
           clear hown8 hgrow hat hown2 Tq Tt FF hbA XD8
           refine hK.out _ _ (HK8.out) ?_; clear hK K hHeld; intro hHeld
           try simp only [Act.put, List.setIfInBounds_toArray, List.set_cons_zero, List.set_cons_succ]
           refine tk 25 hHeld ?_
           refine rd1 26 (fun K hK => ?_)
           go_simp
           refine hK.out _ _ (HS9) ?_; clear hK K hHeld; intro hHeld
           try simp only [Act.put, List.setIfInBounds_toArray, List.set_cons_zero, List.set_cons_succ]
           refine wpAnyH_done (by kernel_rfl) ?_ _
           refine NoPanic.normal ?_
           clear d3 df dl HS9
           go_wp2
           go_roundw
           case rel =>
            obtain ⟨R', f', G', hX', hO', hRW', hav'⟩ := HFin.out
            exact ⟨j + 1, _, cap, R', f', by omega, by go_num, G', hX', HL9.out, hO', hRW', hav'⟩
           case measure => simp [intOf]; omega
         ·go_simp
          refine hK.out _ _ (HSS.out _ (bel_alloc hb _)) ?_; clear hK K hHeld; intro hHeld
          try simp only [Act.put, List.setIfInBounds_toArray, List.set_cons_zero, List.set_cons_succ]
          refine rd1 1 (fun K hK => ?_)
          ·have x3y := HD3.out _ (bel_alloc hb (.cells #[.int .i64 d.id, .slice aq LQ.length cq, .slice at' d.tags.length ct] 67))
           go_simp
           refine hK.out _ _ (hHeld) ?_; clear hK K hHeld; intro hHeld
           try simp only [Act.put, List.setIfInBounds_toArray, List.set_cons_zero, List.set_cons_succ]
           clear x3y
           have hbA := bel_alloc (Bel.refl Y3) (.cells #[.int .i64 d.id, .slice aq LQ.length cq, .slice at' d.tags.length ct] 67)
           have hown2 := World.ownsRow.alloc (own_bel hown hb) (.cells #[.int .i64 d.id, .slice aq LQ.length cq, .slice at' d.tags.length ct] 67)
           have hwq := hb.out.size
           have hwAq := HO.out.size
           refine rd1 24 (fun K hK => ?_)
           refine step_append_lies _ rfl _ _ _ rfl wA.heap.size 67 i3 (.agg #[.int .i64 0, .slice none 0 0, .slice none 0 0]) 3 56 Tryz.underlying31 hi3 hz3 hs3 hy3 rfl (by decide) _ _ _ (by rfl) hown2 ⟨Y3.heap.size, 0, none⟩ 1 1 [.int .i64 d.id, .slice aq LQ.length cq, .slice at' d.tags.length ct] (by rfl) (by rfl) (World.news_of_block (cs := #[.int .i64 d.id, .slice aq LQ.length cq, .slice at' d.tags.length ct]) (t := 67) (fr := (0, 0)) (heap_alloc_new Y3 _)) (by simp [Value.oneCell']) (by omega) (by unfold maxLen; omega) (by omega) (by simp; omega) (Y3.heap.size + 1) (by simp) ?_
           intro g cap w8 hown8 hgrow hat _
           obtain ⟨HK8, HX8, XD8⟩ := (show Hid _ ∧ Hid _ ∧ _ from HKeep.out _ _ (bel_step hb hbA) hgrow)
           have HS9 := HSet.out w8 (.slice (some ⟨g, 0, none⟩) (N + 1) cap) HK8.out
           have HFin := (show Hid _ from HStep.out aq cq at' ct bq bt g cap _ w8 hb Tq Tt FF hown8 hgrow hat)
           have d3 : w8.cell? ⟨D, 3, none⟩ = some (.slice v1 N c3) := XD8.cell 3 (by simp)
           have df := XD8.free 3
           have dl := XD8.lt
           clear hown8 hgrow hat hown2 Tq Tt FF hbA XD8
           refine hK.out _ _ (HK8.out) ?_; clear hK K hHeld; intro hHeld
           try simp only [Act.put, List.setIfInBounds_toArray, List.set_cons_zero, List.set_cons_succ]
           refine tk 25 hHeld ?_
           refine rd1 26 (fun K hK => ?_)
           go_simp
           refine hK.out _ _ (HS9) ?_; clear hK K hHeld; intro hHeld
           try simp only [Act.put, List.setIfInBounds_toArray, List.set_cons_zero, List.set_cons_succ]
           refine wpAnyH_done (by kernel_rfl) ?_ _
           refine NoPanic.normal ?_
           clear d3 df dl HS9
           go_wp2
           go_roundw
           case rel =>
            obtain ⟨R', f', G', hX', hO', hRW', hav'⟩ := HFin.out
            exact ⟨j + 1, _, cap, R', f', by omega, by go_num, G', hX', HL9.out, hO', hRW', hav'⟩
           case measure => simp [intOf]; omega
     ·have hful' : ¬ (N : Int) < 2000 := by omega
      have HE : Hid (lnM T LW j = lnsU m.nodes m.ways z x y (k + 1)) := (HSf.out j (by rw [HNn.out]; omega)).symm
      clear x3 x3l
      have x3 : wq.cell? ⟨D, 3, none⟩ = some (.slice v1 N c3) := by rw [← HNn.out]; exact HX.out.cell 3 (by simp)
      have x3l := HX.out.lt
      go_wp2
      go_roundw
      case rel => exact ⟨k + 1, v1, c3, R1, f1, by omega, by go_num, by rw [← HE.out]; exact HX.out, by rw [← HE.out]; exact HG.out, HO.out⟩
      case measure => simp [intOf]; omega
    ·have e : np = j := by omega
     subst e
     have hjl' : ¬ (np : Int) < (np : Int) := by omega
     have HE : Hid (lnM T LW np = lnsU m.nodes m.ways z x y (k + 1)) := (HSr.out np (by rw [HWl.out]; exact Nat.le_refl _) (by rw [HNn.out]; exact hN2)).symm
     go_wp2
     go_roundw
     case rel => exact ⟨k + 1, v1, c3, R1, f1, by omega, by go_num, by rw [← HE.out]; exact HX.out, by rw [← HE.out]; exact HG.out, HO.out⟩
     case measure => simp [intOf]; omega
  ·have e : n1 = k := by omega
   subst e
   have hlt' : ¬ (n1 : Int) < (n1 : Int) := by omega
   have HE : Hid (lnsU m.nodes m.ways z x y n1 = lnsQ m.nodes m.ways z x y) := (by unfold lnsQ lnsU; rw [H1.out] : lnsU m.nodes m.ways z x y n1 = lnsQ m.nodes m.ways z x y)
   rw [HE.out] at HX HG
   obtain ⟨a', c', bs', e', hS, hM⟩ := Gr.out lneV HG.out
   obtain ⟨rfl, rfl⟩ : va = a' ∧ vc = c' := by simpa using e'
   have hX := HX.out
   have u0 : wr.cell? ⟨D, 0, none⟩ = some (.int .i64 z) := hX.cell 0 (by simp)
   have u1 : wr.cell? ⟨D, 1, none⟩ = some (.int .i64 x) := hX.cell 1 (by simp)
   have u2 : wr.cell? ⟨D, 2, none⟩ = some (.int .i64 y) := hX.cell 2 (by simp)
   have u3 : wr.cell? ⟨D, 3, none⟩ = some (.slice va (lnsQ m.nodes m.ways z x y).length vc) := hX.cell 3 (by simp)
   have ul := hX.lt
   have XRr := XR.out.bel hBr
   have r0 : wr.cell? ⟨w.heap.size + 1 + 1, 0, none⟩ = some (.int .i64 0) := XRr.cell 0 (by simp)
   have r1 : wr.cell? ⟨w.heap.size + 1 + 1, 1, none⟩ = some (.int .i64 0) := XRr.cell 1 (by simp)
   have r2 : wr.cell? ⟨w.heap.size + 1 + 1, 2, none⟩ = some (.int .i64 0) := XRr.cell 2 (by simp)
   have r3 : wr.cell? ⟨w.heap.size + 1 + 1, 3, none⟩ = some (.slice none 0 0) := XRr.cell 3 (by simp)
   have rf := XRr.free
   have rl := XRr.lt
   have hWl := XR.out.lt
   have hAW := hWA.out.size
   have HFin : Hid (∀ u0 u1 u2 u3, LneL ((((wr.setCell ⟨w.heap.size + 1 + 1, 0, none⟩ u0).setCell ⟨w.heap.size + 1 + 1, 1, none⟩ u1).setCell ⟨w.heap.size + 1 + 1, 2, none⟩ u2).setCell ⟨w.heap.size + 1 + 1, 3, none⟩ u3) va (lnsQ m.nodes m.ways z x y) bs' ∧ Fresh w ((((wr.setCell ⟨w.heap.size + 1 + 1, 0, none⟩ u0).setCell ⟨w.heap.size + 1 + 1, 1, none⟩ u1).setCell ⟨w.heap.size + 1 + 1, 2, none⟩ u2).setCell ⟨w.heap.size + 1 + 1, 3, none⟩ u3) bs' ∧ Bel w ((((wr.setCell ⟨w.heap.size + 1 + 1, 0, none⟩ u0).setCell ⟨w.heap.size + 1 + 1, 1, none⟩ u1).setCell ⟨w.heap.size + 1 + 1, 2, none⟩ u2).setCell ⟨w.heap.size + 1 + 1, 3, none⟩ u3)) := fun u0 u1 u2 u3 => by
    have hno : w.heap.size + 1 + 1 ∉ bs' := fun h => by have := (hM.new _ h).1; omega
    have hA : Alike wr ((((wr.setCell ⟨w.heap.size + 1 + 1, 0, none⟩ u0).setCell ⟨w.heap.size + 1 + 1, 1, none⟩ u1).setCell ⟨w.heap.size + 1 + 1, 2, none⟩ u2).setCell ⟨w.heap.size + 1 + 1, 3, none⟩ u3) bs' := ((((Alike.refl (hS.lt lneE)).set hno _ _).set hno _ _).set hno _ _).set hno _ _
    have hF : Fresh w wr bs' := (hM.fresh (w := wA) (Nat.le_refl _)).old (bel_step hBW hWA).out.size
    exact ⟨hS.alike lneE hA, hF.alike hA, bel_set (bel_set (bel_set (bel_set (bel_step hBW hBr) hle2 _) hle2 _) hle2 _) hle2 _⟩
   have hne : D ≠ w.heap.size + 1 + 1 := by omega
   clear hX XRr hS hM e'
   go_wp2
   rw [HYes.out]
   refine bodyPost_ret (v := .agg #[.int .i64 z, .int .i64 x, .int .i64 y, .slice va (lnsQ m.nodes m.ways z x y).length vc]) (by simp [results, Tryz.results5, go_sem, r0, r1, r2, r3]) rfl ⟨_, rfl, bs', ⟨va, vc, rfl, (HFin.out _ _ _ _).1⟩, (HFin.out _ _ _ _).2.1, (HFin.out _ _ _ _).2.2⟩
end Go.Proofs.YtldfcnlhjjiihaaGreat
