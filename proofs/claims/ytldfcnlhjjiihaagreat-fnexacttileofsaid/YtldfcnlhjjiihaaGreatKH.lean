/-
  What is drawn of a tile, as mathematics: the lines of the ways' pieces, at most 2000; a line as a value.
  Copies: the program's and the model's: a list anew, a node, a way, an area with lists of their own: contracts.
  The lines of a tile, in the program: contract.
-/
import Derived.Test.YtldfcnlhjjiihaaGreatTlnM
import Derived.Test.YtldfcnlhjjiihaaGreatGE
import Derived.Test.YtldfcnlhjjiihaaGreatKM
import Derived.Test.YtldfcnlhjjiihaaGreatQntI
import Derived.Test.YtldfcnlhjjiihaaGreatPtLx
import Derived.Test.YtldfcnlhjjiihaaGreatChartF
import Derived.Test.YtldfcnlhjjiihaaGreatKD
import Derived.Test.YtldfcnlhjjiihaaGreatCB
import Derived.Deep.RegionHeld3
import Derived.Test.YtldfcnlhjjiihaaGreatKB
import Derived.Test.YtldfcnlhjjiihaaGreatCD
import Derived.Deep.AppendLies
namespace Go.Proofs.YtldfcnlhjjiihaaGreat
open Go.RowKit Go.Maps

/-- The lines of one way. -/
def lnsW (ns : List NodeD) (z x y : Int) (d : WayD) : List LneD :=
 (clipQ (tbx z x y) (rowTo ns d.nodes d.nodes.length).length (lx (rowTo ns d.nodes d.nodes.length)) (ly (rowTo ns d.nodes d.nodes.length))).map fun c => ⟨d.id, qzQ z x y c.length (lx c) (ly c), d.tags⟩
/-- The lines of the first k ways. -/
def lnsT (ns : List NodeD) (ws : List WayD) (z x y : Int) (k : Nat) : List LneD := (ws.take k).flatMap (lnsW ns z x y)
theorem lnsT_succ {ns : List NodeD} {ws : List WayD} {z x y : Int} {k : Nat} (h : k < ws.length) : lnsT ns ws z x y (k + 1) = lnsT ns ws z x y k ++ lnsW ns z x y ws[k] := by
 unfold lnsT
 rw [List.take_succ_eq_append_getElem h, List.flatMap_append]
 simp
/-- What is there on the way is how the whole begins. -/
theorem lnsT_pre {ns : List NodeD} {ws : List WayD} {z x y : Int} : ∀ (i k : Nat), k + i = ws.length → ∃ r, lnsT ns ws z x y ws.length = lnsT ns ws z x y k ++ r := by
 intro i
 induction i with
 | zero => intro k hk; exact ⟨[], by rw [show k = ws.length by omega]; simp⟩
 | succ i ih =>
  intro k hk
  obtain ⟨r, hr⟩ := ih (k + 1) (by omega)
  rw [lnsT_succ (by omega), List.append_assoc] at hr
  exact ⟨_, hr⟩
theorem lnsT_mid {ns : List NodeD} {ws : List WayD} {z x y : Int} {k : Nat} (h : k < ws.length) (j : Nat) : ∃ r, lnsT ns ws z x y ws.length = (lnsT ns ws z x y k ++ (lnsW ns z x y ws[k]).take j) ++ r := by
 obtain ⟨r, hr⟩ := lnsT_pre (ns := ns) (ws := ws) (z := z) (x := x) (y := y) (ws.length - (k + 1)) (k + 1) (by omega)
 rw [lnsT_succ h] at hr
 refine ⟨(lnsW ns z x y ws[k]).drop j ++ r, ?_⟩
 rw [hr]
 simp only [List.append_assoc]
 rw [← List.append_assoc (List.take j _), List.take_append_drop]
theorem take_pre {α : Type} {L l r : List α} (h : L = l ++ r) {M : Nat} (hl : l.length = M) : L.take M = l := by subst h; subst hl; simp
/-- The lines that are told: at most 2000. -/
def lnsQ (ns : List NodeD) (ws : List WayD) (z x y : Int) : List LneD := (lnsT ns ws z x y ws.length).take 2000
noncomputable def tdtQ (m : MapD) (t : TileD) : TdtD := if (mapB m && tilB t.z t.x t.y) = true then ⟨t, lnsQ m.nodes m.ways t.z t.x t.y⟩ else ⟨⟨0, 0, 0⟩, []⟩

def LneV : VElem LneD := fun w vs d bs => ∃ a c a' c' bs1 bs2, bs = bs1 ++ bs2 ∧ In64 d.way ∧ d.row.length ≤ maxLen ∧ d.tags.length ≤ maxLen ∧ vs = [.int .i64 d.way, .slice a d.row.length c, .slice a' d.tags.length c'] ∧ PtL w a d.row bs1 ∧ Tags w a' d.tags bs2
theorem lneV : VStays 3 LneE LneV :=
 ⟨fun ⟨_, _, _, _, _, _, _, _, _, _, e, _⟩ => by rw [e]; rfl, fun ⟨_, _, _, _, _, _, _, _, _, _, e, _⟩ u hu => by
   subst e; simp only [List.mem_cons, List.not_mem_nil, or_false] at hu; rcases hu with rfl | rfl | rfl <;> rfl,
  fun ⟨a, c, a', c', bs1, bs2, e0, h1, h2, h3, e, h5, h6⟩ hA => ⟨a, c, a', c', bs1, bs2, e0, h1, h2, h3, e, h5.alike ptE (hA.sub fun _ hx => by rw [e0]; simp [hx]), h6.alike tagE (hA.sub fun _ hx => by rw [e0]; simp [hx])⟩,
  fun ⟨a, c, a', c', bs1, bs2, e0, h1, h2, h3, e, h5, h6⟩ x hx => by
   rw [e0] at hx
   rcases List.mem_append.1 hx with hx | hx
   ·exact h5.lt ptE x hx
   ·exact h6.lt tagE x hx,
  fun ⟨a, c, a', c', bs1, bs2, e0, h1, h2, h3, e, h5, h6⟩ hc => by subst e; exact ⟨h1, hc 0 (by simp), a, c, a', c', bs1, bs2, e0, h2, h3, hc 1 (by simp), h5, hc 2 (by simp), h6⟩⟩
end Go.Proofs.YtldfcnlhjjiihaaGreat

namespace Go.Proofs.YtldfcnlhjjiihaaGreat
open Go.RowKit Go.Maps


theorem infoCTag : (Tryz.prog.info? 134).map (fun i => (i.zero, i.size, i.bytes)) = some (some (.agg #[.string ⟨#[]⟩, .string ⟨#[]⟩]), 2, 32) := by kernel_rfl
set_option maxHeartbeats 1000000 in
theorem freshTag_any (a : Option Addr) (n c : Nat) (l : List TagD) (bs : List Nat) (W0 w : World) (h0W : Bel W0 w) (hT : Tags w a l bs) (hn : l.length = n) (hm : n ≤ 1048576) :
  Calls Tryz.prog 62 #[.slice a n c] w fun e w' => ∃ a' c' bs', e = .returned (.slice a' n c') ∧ Tags w' a' l bs' ∧ Fresh W0 w' bs' ∧ Bel w w' := by
 obtain ⟨i0, hi0, hz0, hz1, hz2⟩ := info_parts infoCTag
 have hown0 : w.ownsRow w.heap.size 134 2 (.slice none 0 0) 0 [] := World.ownsRow_nil _ _ _ _
 go_enter Tryz.func62, Tryz.ntmps62
 go_wp2_with (first
  | (at_builtin; refine wpList_append_flat tagF (by decide) rfl _ _ 57 rfl w.heap.size 134 i0 (.agg #[.string ⟨#[]⟩, .string ⟨#[]⟩]) 32 Tryz.underlying57 hi0 hz0 hz1 hz2 rfl _ rfl hown0 a n c l bs rfl hT hn hm (by decide) (Nat.le_refl _) ?_)
  | go_in)
 intro a' c' bs' w3 HS HM hgrow
 have hB : Bel w w3 := bel_grow (Bel.refl _) hgrow (fun j e => by cases e)
 clear hgrow
 go_wp2
 go_ret
 exact ⟨_, _, bs', rfl, HS, HM.fresh h0W.out.size, hB⟩


/-- The answer's own box of n cells, what stood ahead of it as it was. -/
structure So (W : World) (B n : Nat) (w : World) : Prop where
 b : Bel W w
 r : ∃ vs : List Value, vs.length = n ∧ Blk w B vs
theorem So.drew {W : World} {B n : Nat} {w : World} (h : So W B n w) : So W B n w.drew := ⟨h.b.drew, by obtain ⟨vs, e, r⟩ := h.r; exact ⟨vs, e, r.lt, r.cell, r.free⟩⟩
theorem So.bel {W : World} {B n : Nat} {w w' : World} (h : So W B n w) (hb : Bel w w') : So W B n w' := ⟨bel_step h.b hb, by obtain ⟨vs, e, r⟩ := h.r; exact ⟨vs, e, r.bel hb⟩⟩
theorem So.set {W : World} {B n : Nat} {w : World} (h : So W B n w) (hB : W.heap.size ≤ B) (i : Nat) (hi : i < n) (u : Value) : So W B n (w.setCell ⟨B, i, none⟩ u) :=
 ⟨bel_set h.b hB _, by obtain ⟨vs, e, r⟩ := h.r; exact ⟨vs.set i u, by simpa using e, r.set i u (by omega)⟩⟩
theorem setRow_far {w : World} {B o : Nat} (vs : List Value) {bs : List Nat} (hs : ∀ x ∈ bs, x < w.heap.size) (hB : B ∉ bs) : Alike w (setRow w B o vs) bs := setRow_alike vs hs hB
theorem Fresh.alike {v w w' : World} {bs : List Nat} (h : Fresh v w bs) (hA : Alike w w' bs) : Fresh v w' bs :=
 ⟨h.nd, fun b hm => ⟨(h.new b hm).1, (hA b hm).1⟩, fun b hm j => by rw [(hA b hm).2.2 j]; exact h.free b hm j⟩


end Go.Proofs.YtldfcnlhjjiihaaGreat

namespace Go.Proofs.YtldfcnlhjjiihaaGreat
open Go.RowKit Go.Maps

theorem tbx_ordT {z x y : Int} (h : tilB z x y = true) : (tbx z x y).a ≤ (tbx z x y).c ∧ (tbx z x y).b ≤ (tbx z x y).d ∧ Box64 (tbx z x y) := by
 rw [tbx_yes h]
 unfold tilB at h
 simp only [Bool.and_eq_true, decide_eq_true_eq] at h
 obtain ⟨hz, h0, h1, h2, h3⟩ := h
 obtain ⟨a1, a2⟩ := tbA_bd hz h0 h1
 obtain ⟨b1, b2⟩ := tbA_bd hz h2 h3
 have hs : (0 : Int) ≤ zS z := Int.natCast_nonneg _
 refine ⟨by show tbA z x ≤ tbA z x + zS z; omega, by show tbA z y ≤ tbA z y + zS z; omega, ⟨?_, ?_, ?_, ?_⟩⟩
 ·show In64 (tbA z x); unfold In64; omega
 ·show In64 (tbA z y); unfold In64; omega
 ·show In64 (tbA z x + zS z); unfold In64; omega
 ·show In64 (tbA z y + zS z); unfold In64; omega
theorem infoLne : (Tryz.prog.info? 67).map (fun i => (i.zero, i.size, i.bytes)) = some (some (.agg #[.int .i64 0, .slice none 0 0, .slice none 0 0]), 3, 56) := by kernel_rfl
/-- The lines when j pieces of a way are done. -/
def lnM (T LW : List LneD) (j : Nat) : List LneD := T ++ LW.take j
theorem lnM_zero (T LW : List LneD) : lnM T LW 0 = T := by simp [lnM]
theorem lnM_len {T LW : List LneD} {j : Nat} (h : j ≤ LW.length) : (lnM T LW j).length = T.length + j := by unfold lnM; rw [List.length_append, List.length_take]; omega
theorem lnM_succ {T LW : List LneD} {j : Nat} (h : j < LW.length) : lnM T LW (j + 1) = lnM T LW j ++ [LW[j]] := by unfold lnM; rw [List.take_succ_eq_append_getElem h, List.append_assoc]
theorem lnM_all {T LW : List LneD} {j : Nat} (h : LW.length ≤ j) : lnM T LW j = T ++ LW := by unfold lnM; rw [List.take_of_length_le h]
theorem blk_grownT {w w' : World} {B : Nat} {row : Option Nat} {vs : List Value} (h : Blk w B vs) (hg : w.grownBy w' row) (hne : some B ≠ row) : Blk w' B vs :=
 ⟨Nat.lt_of_lt_of_le h.lt hg.size, fun j hj => by rw [World.cell?_of_block (a := ⟨B, j, none⟩) (hg.block B h.lt hne)]; exact h.cell j hj, fun j => by rw [World.frozen?_of_block (a := ⟨B, j, none⟩) (hg.block B h.lt hne)]; exact h.free j⟩
theorem hatTl {v : Value} {g n c H : Nat} (h : v.ownBlock = some g ∨ g = H) : (Value.slice (some ⟨g, 0, none⟩) n c).ownBlock = v.ownBlock ∨ (Value.slice (some ⟨g, 0, none⟩) n c).ownBlock = some H := by
 rcases h with h | h
 ·left; rw [h]; rfl
 ·right; rw [h]; rfl
/-- A row of points, told by what it holds. -/
theorem flt_len {L : List (List PtD)} {j : Nat} (hj : j < L.length) : L[j].length ≤ L.flatten.length := by
 have h1 := stN_succ hj
 have h2 := stN_le (L := L) (j + 1)
 omega

set_option maxRecDepth 100000 in
set_option maxHeartbeats 8000000 in
theorem linesIn_any (d0 : Option Addr) (n0 k0 : Nat) (d1 : Option Addr) (n1 k1 : Nat) (d2 : Option Addr) (n2 k2 bN bW : Nat) (q0 q1 : List Nat) (m : MapD) (z x y : Int) (w : World) (hm : mapB m = true) (hL : MapL m) (ht : tilB z x y = true) (h0 : m.nodes.length = n0) (h1 : m.ways.length = n1)
  (hN : NRecs w d0 m.nodes q0) (hR : WRecs w d1 m.ways q1) (hMN : MapAt w bN m.nodes.length (plc (nId m.nodes) m.nodes.length)) :
  Calls Tryz.prog 28 #[chV d0 n0 k0 d1 n1 k1 d2 n2 k2 bN bW, til z x y] w fun e w' => ∃ a' c' bs', e = .returned (.slice a' (lnsQ m.nodes m.ways z x y).length c') ∧ LneL w' a' (lnsQ m.nodes m.ways z x y) bs' ∧ Fresh w w' bs' ∧ Bel w w' := by
 have hok := bP_out hm
 have HY : Hid (∀ k (h : k < m.ways.length), m.ways[k].nodes.length ≤ 2000 ∧ ∀ j (h' : j < m.ways[k].nodes.length), HasI m.nodes.length (nId m.nodes) m.ways[k].nodes[j]) := fun k hkl => ⟨(hok.wy k hkl).2.1, fun j h' => ((hok.wy k hkl).2.2 j h').1⟩
 have HA : Hid (AscP m.nodes.length (nId m.nodes) (nTg m.nodes)) := hok.an
 have HTg : Hid (∀ k (h : k < m.ways.length), m.ways[k].tags.length ≤ 1048576) := fun k h => (hL.u1 k h).2
 have H0 : Hid (m.nodes.length = n0) := h0
 have H1 : Hid (m.ways.length = n1) := h1
 have H6 : Hid (Box64 (tbx z x y)) := (tbx_ordT ht).2.2
 obtain ⟨i3, hi3, hz3, hs3, hy3⟩ := info_parts infoLne
 have hn1 : n1 ≤ 1048576 := by rw [← h1]; exact hL.l1
 clear hok hm h0 h1 ht hL
 obtain ⟨W, HW⟩ : ∃ W, Hid (W = (w.alloc (.cells #[.slice d0 n0 k0, .slice d1 n1 k1, .slice d2 n2 k2, .map (some bN), .map (some bW)] 76)).alloc (.cells #[.int .i64 z, .int .i64 x, .int .i64 y] 30)) := ⟨_, (rfl : (w.alloc (.cells #[.slice d0 n0 k0, .slice d1 n1 k1, .slice d2 n2 k2, .map (some bN), .map (some bW)] 76)).alloc (.cells #[.int .i64 z, .int .i64 x, .int .i64 y] 30) = _)⟩
 have hBW : Bel w W := by rw [HW.out]; exact bel_alloc (bel_alloc (Bel.refl _) _) _
 have Xc : Hid (Blk W w.heap.size [.slice d0 n0 k0, .slice d1 n1 k1, .slice d2 n2 k2, .map (some bN), .map (some bW)]) := by rw [HW.out]; exact (Blk.new w [.slice d0 n0 k0, .slice d1 n1 k1, .slice d2 n2 k2, .map (some bN), .map (some bW)] _).bel (bel_alloc (Bel.refl _) _)
 have Xt : Hid (Blk W (w.heap.size + 1) [.int .i64 z, .int .i64 x, .int .i64 y]) := by rw [HW.out]; exact Blk.new1 w _ [.int .i64 z, .int .i64 x, .int .i64 y] _
 have HN : Hid (NRecs W d0 m.nodes q0) := hN.bel nRecE hBW
 have HR : Hid (WRecs W d1 m.ways q1) := hR.bel wRecE hBW
 have HM : Hid (MapAt W bN m.nodes.length (plc (nId m.nodes) m.nodes.length)) := hMN.bel hBW
 clear hN hR hMN
 go_enter Tryz.func28, Tryz.ntmps28
 go_upto_region 2 with fail
 rw [← HW.out]
 clear HW
 have x1 : W.cell? ⟨w.heap.size, 1, none⟩ = some (.slice d1 n1 k1) := Xc.out.cell 1 (by simp)
 have xl := Xc.out.lt
 go_wp2
 go_loopw [5, 7, 9, 13] (fun o _ _ i wr => ∃ (k : Nat) (R : Nat → List Value) (f : Nat → List Nat), k ≤ n1 ∧ i = .int .i64 k ∧ Gr 3 LneV 67 W.heap.size wr o (lnsT m.nodes m.ways z x y k) R f ∧ (lnsT m.nodes m.ways z x y k).length ≤ 2000 ∧ Bel W wr) (fun _ _ _ i _ => n1 - (intOf i).toNat)
 case atStart => exact ⟨0, _, _, Nat.zero_le _, rfl, Gr.nil 3 LneV 67 _ _, Nat.zero_le _, Bel.refl _⟩
 case round =>
  obtain ⟨k, R, f0, hk, rfl, hG, hGl, hBr⟩ := hrel
  obtain ⟨va, vc, rfl⟩ := own_shape hG.own
  by_cases hlt : k < n1
  ·have hkl : k < m.ways.length := by rw [H1.out]; exact hlt
   obtain ⟨wr0, rfl⟩ : ∃ V, V = wr := ⟨_, rfl⟩
   obtain ⟨b, off, f', rfl, hb, hx⟩ := HR.out.out hkl
   obtain ⟨id0, e0, ra2, rc2, ra, rc, g1, g2, _, hml2, hml, e2, tt2, e1, tt⟩ := hx k hkl
   have e0 := bel_cellM hBr hb e0
   have e1 := bel_cellM hBr hb e1
   have e2 := bel_cellM hBr hb e2
   have HYK := HY.out k hkl
   have htg := HTg.out k hkl
   have HS1 : Hid (lnsT m.nodes m.ways z x y (k + 1) = lnsT m.nodes m.ways z x y k ++ lnsW m.nodes z x y m.ways[k]) := lnsT_succ hkl
   have HMd : Hid (∀ j, ∃ r, lnsT m.nodes m.ways z x y m.ways.length = (lnsT m.nodes m.ways z x y k ++ (lnsW m.nodes z x y m.ways[k]).take j) ++ r) := fun j => lnsT_mid hkl j
   obtain ⟨d, Hd⟩ : ∃ d, Hid (m.ways[k] = d) := ⟨_, (rfl : m.ways[k] = _)⟩
   rw [Hd.out] at e0 e1 e2 id0 hml hml2 tt tt2 HYK htg HS1 HMd
   obtain ⟨L, HLq⟩ : ∃ L, Hid (rowTo m.nodes d.nodes d.nodes.length = L) := ⟨_, (rfl : rowTo m.nodes d.nodes d.nodes.length = _)⟩
   have HLl : Hid (L.length ≤ 2000) := by rw [← HLq.out]; unfold rowTo; rw [List.length_map, List.length_take]; exact (by omega : min d.nodes.length d.nodes.length ≤ 2000)
   obtain ⟨PC, HPC⟩ : ∃ PC, Hid (clipQ (tbx z x y) L.length (lx L) (ly L) = PC) := ⟨_, (rfl : clipQ (tbx z x y) L.length (lx L) (ly L) = _)⟩
   have HPJ : Hid (PC.length ≤ 2000 ∧ PC.flatten.length ≤ 4000) := by rw [← HPC.out]; exact (clipQ_J H6.out).2
   have HWm : Hid (lnsW m.nodes z x y d = PC.map fun c => ⟨d.id, qzQ z x y c.length (lx c) (ly c), d.tags⟩) := by
    show lnsW m.nodes z x y d = _
    unfold lnsW
    rw [HLq.out, HPC.out]
   obtain ⟨Q, HQ⟩ : ∃ Q, Hid (Q = wr0.alloc (.cells #[.int .i64 d.id, .slice ra d.tags.length rc, .slice ra2 d.nodes.length rc2] 125)) := ⟨_, (rfl : wr0.alloc (.cells #[.int .i64 d.id, .slice ra d.tags.length rc, .slice ra2 d.nodes.length rc2] 125) = _)⟩
   have hBQ : Bel wr0 Q := by rw [HQ.out]; exact bel_alloc (Bel.refl _) _
   have XQ : Hid (Blk Q wr0.heap.size [.int .i64 d.id, .slice ra d.tags.length rc, .slice ra2 d.nodes.length rc2]) := by rw [HQ.out]; exact Blk.new wr0 [.int .i64 d.id, .slice ra d.tags.length rc, .slice ra2 d.nodes.length rc2] _
   have hWQ := bel_step hBr hBQ
   have hC : ∀ w', Bel Q w' → w'.cell? ⟨w.heap.size, 0, none⟩ = some (.slice d0 n0 k0) ∧ w'.cell? ⟨w.heap.size, 1, none⟩ = some (.slice (some ⟨b, off, none⟩) n1 k1) ∧ w'.cell? ⟨w.heap.size, 2, none⟩ = some (.slice d2 n2 k2) ∧ w'.cell? ⟨w.heap.size, 3, none⟩ = some (.map (some bN)) ∧ w'.cell? ⟨w.heap.size, 4, none⟩ = some (.map (some bW)) ∧ w'.cell? ⟨w.heap.size + 1, 0, none⟩ = some (.int .i64 z) ∧ w'.cell? ⟨w.heap.size + 1, 1, none⟩ = some (.int .i64 x) ∧ w'.cell? ⟨w.heap.size + 1, 2, none⟩ = some (.int .i64 y) ∧ w'.cell? ⟨wr0.heap.size, 0, none⟩ = some (.int .i64 d.id) ∧ w'.cell? ⟨wr0.heap.size, 1, none⟩ = some (.slice ra d.tags.length rc) ∧ w'.cell? ⟨wr0.heap.size, 2, none⟩ = some (.slice ra2 d.nodes.length rc2) :=
    fun w' h => ⟨((Xc.out.bel hWQ).bel h).cell 0 (by simp), ((Xc.out.bel hWQ).bel h).cell 1 (by simp), ((Xc.out.bel hWQ).bel h).cell 2 (by simp), ((Xc.out.bel hWQ).bel h).cell 3 (by simp), ((Xc.out.bel hWQ).bel h).cell 4 (by simp), ((Xt.out.bel hWQ).bel h).cell 0 (by simp), ((Xt.out.bel hWQ).bel h).cell 1 (by simp), ((Xt.out.bel hWQ).bel h).cell 2 (by simp), (XQ.out.bel h).cell 0 (by simp), (XQ.out.bel h).cell 1 (by simp), (XQ.out.bel h).cell 2 (by simp)⟩
   have hT1 : ∀ w', Bel Q w' → Ints w' ra2 d.nodes g1 := fun w' h => (tt2.bel intE hWQ).bel intE h
   have hT2 : ∀ w', Bel Q w' → NRecs w' d0 m.nodes q0 := fun w' h => (HN.out.bel nRecE hWQ).bel nRecE h
   have hT3 : ∀ w', Bel Q w' → MapAt w' bN m.nodes.length (plc (nId m.nodes) m.nodes.length) := fun w' h => (HM.out.bel hWQ).bel h
   have HGT : Hid (Tags W ra d.tags g2) := tt
   have g0 : Bel Q Q := Bel.refl _
   have hlt' : (k : Int) < (n1 : Int) := by omega
   have HG : Hid (Gr 3 LneV 67 W.heap.size wr0 (.slice va (lnsT m.nodes m.ways z x y k).length vc) (lnsT m.nodes m.ways z x y k) R f0) := hG
   clear hx tt tt2 hb hG
   go_wp2
   rw [← HQ.out]
   clear e0 e1 e2
   go_region_held3 (fun w' => Bel Q w') (with_reducible (repeat (first | assumption | exact g0 | refine Bel.drew ?_ | refine bel_then (by assumption) ?_)))
    (first
     | (go_at_call 59; refine (rowI_any _ _ _ _ _ _ _ _ _ _ _ _ _ _ _ _ _ _ d.nodes g1 m.nodes q0 (nTg m.nodes) 0 _ (Nat.zero_le _) (hT1 _ (by assumption)) rfl HYK.1 (hT2 _ (by assumption)) H0.out HA.out (hT3 _ (by assumption)) HYK.2).mono ?_; rintro e w5 ⟨v5, rfl, O5, hb5⟩; rw [HLq.out] at O5; obtain ⟨a5, c5, b5, rfl, P5, _, _⟩ := O5)
     | (go_at_call 60; refine (tileBox_any z x y _).mono ?_; rintro e w6 ⟨rfl, hb6⟩)
     | (go_at_call 58; refine (clipI_any a5 L.length c5 (lx L) (ly L) (tbx z x y) _ (Sl.pts (P5.bel ptE (by with_reducible (repeat (first | exact Bel.refl _ | assumption | refine Bel.drew ?_ | refine bel_then (by assumption) ?_))))) (by have := HLl.out; omega) H6.out).mono ?_; rintro e w7 ⟨a7, c7, b7, rfl, P7, N7, hb7⟩; rw [HPC.out] at P7 ⊢; refine (fun N8 : ∀ x ∈ b7, Q.heap.size ≤ x => ?_) (fun x hx => Nat.le_trans ((fun (h : Bel Q _) => h.out.size) (by with_reducible (repeat (first | assumption | exact g0 | refine Bel.drew ?_ | refine bel_then (by assumption) ?_)))) (N7.new x hx).1)))
   have hQ7 : Bel Q w7 := by assumption
   have hr7 : Bel wr0 w7 := bel_step hBQ hQ7
   obtain ⟨np, Hnp⟩ : ∃ n, Hid (PC.length = n) := ⟨_, (rfl : PC.length = _)⟩
   rw [Hnp.out] at HPJ ⊢
   obtain ⟨LW, HLW⟩ : ∃ l, Hid (lnsW m.nodes z x y d = l) := ⟨_, (rfl : lnsW m.nodes z x y d = _)⟩
   rw [HLW.out] at HS1 HMd HWm
   have HWl : Hid (LW.length = np) := by rw [HWm.out, List.length_map]; exact Hnp.out
   have HWe : Hid (∀ j (h : j < LW.length) (h' : j < PC.length), LW[j] = ⟨d.id, qzQ z x y PC[j].length (lx PC[j]) (ly PC[j]), d.tags⟩) := fun j h h' => by
    have := HWm.out
    subst this
    simp
   obtain ⟨T, HT⟩ : ∃ l, Hid (lnsT m.nodes m.ways z x y k = l) := ⟨_, (rfl : lnsT m.nodes m.ways z x y k = _)⟩
   rw [HT.out] at HG HS1 HMd hGl ⊢
   have hown0 := HG.out.own.lt
   have hQs : wr0.heap.size + 1 = Q.heap.size := by rw [HQ.out]; simp
   have hbox : wr0.heap.size < w7.heap.size := Nat.lt_of_lt_of_le (by omega) hQ7.out.size
   have hWr : W.heap.size ≤ wr0.heap.size := hBr.out.size
   have XB7 : Blk w7 wr0.heap.size [.int .i64 d.id, .slice ra d.tags.length rc, .slice ra2 d.nodes.length rc2] := XQ.out.bel hQ7
   have hG7 : Gr 3 LneV 67 W.heap.size w7 (.slice va T.length vc) (lnM T LW 0) R f0 := by rw [lnM_zero]; exact HG.out.bel lneV hr7
   have hav7 : ∀ g, (Value.slice va T.length vc).ownBlock = some g → g ≠ wr0.heap.size ∧ g ∉ b7 := fun g e => ⟨fun e2 => by have := (hown0 g e).2; omega, fun hg => by have := (hown0 g e).2; have := N8 g hg; omega⟩
   have hW7 : Bel W w7 := bel_step hBr hr7
   clear HG hown0 hC hT1 hT2 hT3 g0 N7 N8 hQ7 hr7 XQ P5
   have HP7 : Hid (PieL w7 a7 PC b7) := P7
   clear P7
   go_wp2
   go_loopw [5, 9, 24] (fun o _ i wr => ∃ (j : Nat) (R : Nat → List Value) (f : Nat → List Nat), j ≤ np ∧ i = .int .i64 j ∧ Gr 3 LneV 67 W.heap.size wr o (lnM T LW j) R f ∧ (lnM T LW j).length ≤ 2000 ∧ (∀ g, o.ownBlock = some g → g ≠ wr0.heap.size ∧ g ∉ b7) ∧ Blk wr wr0.heap.size [.int .i64 d.id, .slice ra d.tags.length rc, .slice ra2 d.nodes.length rc2] ∧ PieL wr a7 PC b7 ∧ Bel W wr) (fun _ _ i _ => np - (intOf i).toNat)
   case atStart => exact ⟨0, _, _, Nat.zero_le _, rfl, hG7, by rw [lnM_zero]; exact hGl, hav7, XB7, HP7.out, hW7⟩
   case round =>
    clear hG7 hav7 XB7 hW7 hBr hWQ
    obtain ⟨j, R1, f1, hj, rfl, hG, hGl1, hav, XB, PL, hBr⟩ := hrel
    obtain ⟨v1, c1, rfl⟩ := own_shape hG.own
    by_cases hjl : j < np
    ·have hjp : j < PC.length := by rw [Hnp.out]; exact hjl
     have hjw : j < LW.length := by rw [HWl.out]; exact hjl
     obtain ⟨b8, R8⟩ := PL.rows
     obtain ⟨bR, oR, fR, rfl, hbR, hxR⟩ := R8.out hjp
     obtain ⟨ap, cp, hmp, cl, Tp⟩ := hxR j hjp
     rw [Nat.mul_one] at cl
     have HSu : Hid (lnM T LW (j + 1) = lnM T LW j ++ [⟨d.id, qzQ z x y PC[j].length (lx PC[j]) (ly PC[j]), d.tags⟩]) := by
      have h1 := lnM_succ (T := T) hjw
      rw [HWe.out j hjw hjp] at h1
      exact h1
     have hpf : PC[j].length ≤ 4000 := Nat.le_trans (flt_len hjp) HPJ.out.2
     obtain ⟨pc, Hpc⟩ : ∃ d, Hid (PC[j] = d) := ⟨_, (rfl : PC[j] = _)⟩
     rw [Hpc.out] at cl Tp HSu hpf hmp
     have HMj := HMd.out j
     have HLn : Hid ((lnM T LW j).length = T.length + j) := lnM_len (by omega)
     obtain ⟨N, HNn⟩ : ∃ N, Hid ((lnM T LW j).length = N) := ⟨_, (rfl : (lnM T LW j).length = _)⟩
     have hN2 : N ≤ 2000 := by rw [← HNn.out]; exact hGl1
     have HG : Hid (Gr 3 LneV 67 W.heap.size wr (.slice v1 (lnM T LW j).length c1) (lnM T LW j) R1 f1) := hG
     have HPL : Hid (PieL wr (some ⟨bR, oR, none⟩) PC b7) := PL
     rw [HNn.out]
     have hjl' : (j : Int) < (np : Int) := by omega
     have hnp := HPJ.out.1
     clear hxR R8 hG hGl1 PL
     by_cases hfull : N = 2000
     ·have hfd : ((N : Int) == 2000) = true := by simp; omega
      have hfe : (N : Int) = 2000 := by omega
      have HO := Gr.out lneV HG.out
      obtain ⟨a', c', bs', e', hS, hM⟩ := HO
      rw [HNn.out] at e'
      obtain ⟨rfl, rfl⟩ : v1 = a' ∧ c1 = c' := by simpa using e'
      obtain ⟨rr, hrr⟩ := HMj
      have HE : Hid (lnsQ m.nodes m.ways z x y = lnM T LW j) := take_pre hrr (by rw [show (T ++ LW.take j).length = N from HNn.out]; exact hfull)
      have hF := (hM.fresh (w := W) (Nat.le_refl _)).old hBW.out.size
      clear e' HG hM hav XB HPL Tp
      go_wp2
      go_ret
      rw [HE.out]
      first | exact ⟨v1, ⟨c1, by rw [HNn.out]; rfl⟩, bs', hS, hF, bel_step hBW hBr⟩ | exact ⟨v1, c1, bs', by rw [HNn.out]; rfl, hS, hF, bel_step hBW hBr⟩
     ·have hfd : ((N : Int) == 2000) = false := by simp; omega
      have hfe : ¬ (N : Int) = 2000 := by omega
      have Xtr := Xt.out.bel hBr
      have HSS : Hid (∀ w', Bel wr w' → w'.cell? ⟨wr0.heap.size, 0, none⟩ = some (.int .i64 d.id) ∧ w'.cell? ⟨wr0.heap.size, 1, none⟩ = some (.slice ra d.tags.length rc) ∧ w'.cell? ⟨w.heap.size + 1, 0, none⟩ = some (.int .i64 z) ∧ w'.cell? ⟨w.heap.size + 1, 1, none⟩ = some (.int .i64 x) ∧ w'.cell? ⟨w.heap.size + 1, 2, none⟩ = some (.int .i64 y)) := fun w' h => ⟨(XB.bel h).cell 0 (by simp), (XB.bel h).cell 1 (by simp), (Xtr.bel h).cell 0 (by simp), (Xtr.bel h).cell 1 (by simp), (Xtr.bel h).cell 2 (by simp)⟩
      have g1 : (fun w' => w'.cell? ⟨wr0.heap.size, 0, none⟩ = some (.int .i64 d.id) ∧ w'.cell? ⟨wr0.heap.size, 1, none⟩ = some (.slice ra d.tags.length rc) ∧ w'.cell? ⟨w.heap.size + 1, 0, none⟩ = some (.int .i64 z) ∧ w'.cell? ⟨w.heap.size + 1, 1, none⟩ = some (.int .i64 x) ∧ w'.cell? ⟨w.heap.size + 1, 2, none⟩ = some (.int .i64 y)) wr.drew := HSS.out _ (Bel.refl _).drew
      have HXB : Hid (Blk wr wr0.heap.size [.int .i64 d.id, .slice ra d.tags.length rc, .slice ra2 d.nodes.length rc2]) := XB
      have HXt : Hid (Blk wr (w.heap.size + 1) [.int .i64 z, .int .i64 x, .int .i64 y]) := Xtr
      have Hav : Hid (∀ g, (Value.slice v1 N c1).ownBlock = some g → g ≠ wr0.heap.size ∧ g ∉ b7) := by rw [← HNn.out]; exact hav
      have hown := HG.out.own
      rw [HNn.out] at hown
      have Hqz : Hid ((qzQ z x y pc.length (lx pc) (ly pc)).length ≤ maxLen) := Nat.le_trans (qzQ_len z x y pc.length (lx pc) (ly pc)) (by unfold maxLen; omega)
      clear XB Xtr hav
      go_upto_region 10 with fail
      refine wp_region_noPanic ?_
      refine wp_region_held_drew (S := (fun w' => w'.cell? ⟨wr0.heap.size, 0, none⟩ = some (.int .i64 d.id) ∧ w'.cell? ⟨wr0.heap.size, 1, none⟩ = some (.slice ra d.tags.length rc) ∧ w'.cell? ⟨w.heap.size + 1, 0, none⟩ = some (.int .i64 z) ∧ w'.cell? ⟨w.heap.size + 1, 1, none⟩ = some (.int .i64 x) ∧ w'.cell? ⟨w.heap.size + 1, 2, none⟩ = some (.int .i64 y))) (by kernel_rfl) g1 (fun hHeld => ?_)
      refine tk 0 hHeld ?_; refine tk 1 hHeld ?_; refine tk 2 hHeld ?_; refine tk 3 hHeld ?_; refine tk 4 hHeld ?_; refine tk 5 hHeld ?_; refine tk 7 hHeld ?_; refine tk 8 hHeld ?_; refine tk 9 hHeld ?_
      refine rd1 6 (fun K hK => ?_)
      go_simp
      refine (quantise_any ap pc.length cp (lx pc) (ly pc) z x y _ (Sl.pts (Tp.bel ptE (Bel.refl _).drew)) (by omega)).mono ?_
      rintro e w5 ⟨aq, cq, bq, rfl, Tq, Fq, hbq⟩
      have hb5 : Bel wr w5 := bel_step (Bel.refl wr).drew hbq
      have Fq := Fq.old (v := wr) (Bel.refl wr).drew.out.size
      go_wp2_with fail
      refine hK.out _ _ (HSS.out _ hb5) ?_; clear hK K hHeld; intro hHeld
      try simp only [Act.put, List.setIfInBounds_toArray, List.set_cons_zero, List.set_cons_succ]
      refine rd1 10 (fun K hK => ?_)
      go_simp
      refine (freshTag_any ra d.tags.length rc d.tags g2 w5 _ (Bel.refl _) (HGT.out.bel tagE (bel_step hBr hb5)) rfl htg).mono ?_
      rintro e w6 ⟨at', ct, bt, rfl, Tt, Ft, hbt⟩
      have hb6 : Bel wr w6 := bel_step hb5 hbt
      go_wp2_with fail
      refine hK.out _ _ (HSS.out _ hb6) ?_; clear hK K hHeld; intro hHeld
      try simp only [Act.put, List.setIfInBounds_toArray, List.set_cons_zero, List.set_cons_succ]
      refine tk 11 hHeld ?_
      refine rd1 12 (fun K hK => ?_)
      go_simp
      refine hK.out _ _ (HSS.out _ (bel_alloc hb6 _)) ?_; clear hK K hHeld; intro hHeld
      try simp only [Act.put, List.setIfInBounds_toArray, List.set_cons_zero, List.set_cons_succ]
      have hbA := bel_alloc (Bel.refl w6) (.cells #[.int .i64 d.id, .slice aq (qzQ z x y pc.length (lx pc) (ly pc)).length cq, .slice at' d.tags.length ct] 67)
      have hown2 := World.ownsRow.alloc (own_bel hown hb6) (.cells #[.int .i64 d.id, .slice aq (qzQ z x y pc.length (lx pc) (ly pc)).length cq, .slice at' d.tags.length ct] 67)
      have hwr6 := hb6.out.size
      have hWs := hBr.out.size
      refine rd1 13 (fun K hK => ?_)
      refine step_append_lies _ rfl _ _ _ rfl W.heap.size 67 i3 (.agg #[.int .i64 0, .slice none 0 0, .slice none 0 0]) 3 56 Tryz.underlying31 hi3 hz3 hs3 hy3 rfl (by decide) _ _ _ (by rfl) hown2 ⟨w6.heap.size, 0, none⟩ 1 1 [.int .i64 d.id, .slice aq (qzQ z x y pc.length (lx pc) (ly pc)).length cq, .slice at' d.tags.length ct] (by rfl) (by rfl) (World.news_of_block (cs := #[.int .i64 d.id, .slice aq (qzQ z x y pc.length (lx pc) (ly pc)).length cq, .slice at' d.tags.length ct]) (t := 67) (fr := (0, 0)) (heap_alloc_new w6 _)) (by simp [Value.oneCell']) (by omega) (by unfold maxLen; omega) (by omega) (by simp; omega) (w6.heap.size + 1) (by simp) ?_
      intro g cap w7' hown7 hgrow hat _
      have hne : ∀ q, (Value.slice v1 N c1).ownBlock = some q → W.heap.size ≤ q := fun q e => (hown.lt q e).1
      have XB7 : Blk w7' wr0.heap.size [.int .i64 d.id, .slice ra d.tags.length rc, .slice ra2 d.nodes.length rc2] := blk_grownT ((HXB.out.bel hb6).bel hbA) hgrow (fun e => (Hav.out _ e.symm).1 rfl)
      have Xt7 : Blk w7' (w.heap.size + 1) [.int .i64 z, .int .i64 x, .int .i64 y] := blk_grownT ((HXt.out.bel hb6).bel hbA) hgrow (fun e => by have := hne _ e.symm; have := Xt.out.lt; omega)
      have PL7 : PieL w7' (some ⟨bR, oR, none⟩) PC b7 := ((HPL.out.bel rowE hb6).bel rowE hbA).alike rowE (alike_row hgrow (fun q hq => ⟨((HPL.out.bel rowE hb6).bel rowE hbA).lt rowE q hq, fun e => (Hav.out q e.symm).2 hq⟩))
      have hBr7 : Bel W w7' := bel_grow (bel_step hBr (bel_step hb6 hbA)) hgrow hne
      have hat' : (Value.slice v1 N c1).ownBlock = some g ∨ g = (w6.alloc (.cells #[.int .i64 d.id, .slice aq (qzQ z x y pc.length (lx pc) (ly pc)).length cq, .slice at' d.tags.length ct] 67)).heap.size := by simpa using hat
      have hav7' : ∀ q, (Value.slice (some ⟨g, 0, none⟩) (N + 1) cap).ownBlock = some q → q ≠ wr0.heap.size ∧ q ∉ b7 := fun q e => by
       obtain rfl : g = q := by simpa [Value.ownBlock] using e
       rcases hat with h | h
       ·exact Hav.out _ h
       ·subst h
        refine ⟨fun e2 => by have := (HXB.out.bel hb6).lt; omega, fun hq => by have := (HPL.out.bel rowE hb6).lt rowE _ hq; omega⟩
      have hG7 : ∃ R' f', Gr 3 LneV 67 W.heap.size w7' (.slice (some ⟨g, 0, none⟩) (N + 1) cap) (lnM T LW (j + 1)) R' f' := by
       have := Gr.add lneV HG.out hb6 hbA (d := ⟨d.id, qzQ z x y pc.length (lx pc) (ly pc), d.tags⟩) (show LneV w6 [.int .i64 d.id, .slice aq (qzQ z x y pc.length (lx pc) (ly pc)).length cq, .slice at' d.tags.length ct] _ (bq ++ bt) from ⟨aq, cq, at', ct, bq, bt, rfl, id0, Hqz.out, hml, rfl, Tq.bel ptE hbt, Tt⟩) (Fq.behind hb5 Ft hbt) hBr.out.size (by rw [HNn.out]; exact hown7) (by rw [HNn.out]; exact hgrow) (by rw [HNn.out]; exact hatTl hat')
       rw [HSu.out]
       exact ⟨_, _, this⟩
      have HK7 : Hid ((fun w' => w'.cell? ⟨wr0.heap.size, 0, none⟩ = some (.int .i64 d.id) ∧ w'.cell? ⟨wr0.heap.size, 1, none⟩ = some (.slice ra d.tags.length rc) ∧ w'.cell? ⟨w.heap.size + 1, 0, none⟩ = some (.int .i64 z) ∧ w'.cell? ⟨w.heap.size + 1, 1, none⟩ = some (.int .i64 x) ∧ w'.cell? ⟨w.heap.size + 1, 2, none⟩ = some (.int .i64 y)) w7') := ⟨XB7.cell 0 (by simp), XB7.cell 1 (by simp), Xt7.cell 0 (by simp), Xt7.cell 1 (by simp), Xt7.cell 2 (by simp)⟩
      have HG8 : Hid (∃ R' f', Gr 3 LneV 67 W.heap.size w7' (.slice (some ⟨g, 0, none⟩) (N + 1) cap) (lnM T LW (j + 1)) R' f') := hG7
      have HX8 : Hid (Blk w7' wr0.heap.size [.int .i64 d.id, .slice ra d.tags.length rc, .slice ra2 d.nodes.length rc2]) := XB7
      have HP8 : Hid (PieL w7' (some ⟨bR, oR, none⟩) PC b7) := PL7
      have HB8 : Hid (Bel W w7') := hBr7
      have HA8 : Hid (∀ q, (Value.slice (some ⟨g, 0, none⟩) (N + 1) cap).ownBlock = some q → q ≠ wr0.heap.size ∧ q ∉ b7) := hav7'
      have HL8 : Hid ((lnM T LW (j + 1)).length ≤ 2000) := by rw [HSu.out, List.length_append, HNn.out]; exact (by simp; omega : N + 1 ≤ 2000)
      clear hG7 hav7' PL7 Xt7 XB7 hBr7 hat hat' hown7 hgrow hown2 hown Tq Fq Tt Ft Tp cl
      refine hK.out _ _ (HK7.out) ?_; clear hK K hHeld; intro hHeld
      try simp only [Act.put, List.setIfInBounds_toArray, List.set_cons_zero, List.set_cons_succ]
      refine rd1 14 (fun K hK => ?_)
      go_simp
      refine hK.out _ _ (hHeld) ?_; clear hK K hHeld; intro hHeld
      try simp only [Act.put, List.setIfInBounds_toArray, List.set_cons_zero, List.set_cons_succ]
      refine wpAnyH_done (by kernel_rfl) ?_ _
      refine NoPanic.normal ?_
      go_wp2
      go_roundw
      case rel =>
       obtain ⟨R', f', G'⟩ := HG8.out
       exact ⟨j + 1, R', f', by omega, by go_num, G', HL8.out, HA8.out, HX8.out, HP8.out, HB8.out⟩
      case measure => simp [intOf]; omega
    ·have e : np = j := by omega
     subst e
     have HE : Hid (lnM T LW np = lnsT m.nodes m.ways z x y (k + 1)) := (by rw [lnM_all (by rw [HWl.out]; exact Nat.le_refl _)]; exact HS1.out.symm : lnM T LW np = lnsT m.nodes m.ways z x y (k + 1))
     rw [HE.out] at hG hGl1 ⊢
     have hjl' : ¬ (np : Int) < (np : Int) := by omega
     have HG9 : Hid (Gr 3 LneV 67 W.heap.size wr (.slice v1 (lnsT m.nodes m.ways z x y (k + 1)).length c1) (lnsT m.nodes m.ways z x y (k + 1)) R1 f1) := hG
     have HB9 : Hid ((lnsT m.nodes m.ways z x y (k + 1)).length ≤ 2000) := hGl1
     clear hG hGl1 PL XB hav
     go_wp2
     go_roundw
     case rel => exact ⟨k + 1, R1, f1, by omega, by go_num, HG9.out, HB9.out, hBr⟩
     case measure => simp [intOf]; omega
  ·have e : n1 = k := by omega
   subst e
   have hlt' : ¬ (n1 : Int) < (n1 : Int) := by omega
   have HE : Hid (lnsQ m.nodes m.ways z x y = lnsT m.nodes m.ways z x y n1) := (by unfold lnsQ; rw [H1.out]; exact List.take_of_length_le hGl : lnsQ m.nodes m.ways z x y = lnsT m.nodes m.ways z x y n1)
   obtain ⟨a', c', bs', e', hS, hM⟩ := Gr.out lneV hG
   obtain ⟨rfl, rfl⟩ : va = a' ∧ vc = c' := by simpa using e'
   have hF := (hM.fresh (w := W) (Nat.le_refl _)).old hBW.out.size
   clear e' hG hM
   go_wp2
   go_ret
   rw [HE.out]
   first | exact ⟨va, ⟨vc, rfl⟩, bs', hS, hF, bel_step hBW hBr⟩ | exact ⟨va, vc, bs', rfl, hS, hF, bel_step hBW hBr⟩
end Go.Proofs.YtldfcnlhjjiihaaGreat
