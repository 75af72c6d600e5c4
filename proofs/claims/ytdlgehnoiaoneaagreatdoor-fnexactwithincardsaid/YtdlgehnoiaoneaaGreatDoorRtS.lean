/-
  The model's search for least times: l10Reach: contract.
-/
import Derived.Test.YtdlgehnoiaoneaaGreatDoorGA
import Derived.Test.YtdlgehnoiaoneaaGreatDoorRtW
import Derived.Test.YtdlgehnoiaoneaaGreatDoorTsI
import Derived.Deep.RegionHeld3
import Derived.Deep.AppendLies
namespace Go.Proofs.YtdlgehnoiaoneaaGreatDoor
open Go.RowKit Go.Maps

theorem infoBr : (Tryz.prog.info? 4).map (fun i => (i.zero, i.size, i.bytes)) = some (some (.bool false), 1, 1) := by kernel_rfl
theorem dn_atR {w : World} {B n : Nat} {D : List Nat} (h : Blk w B (dnV n D)) {x : Nat} (hx : x < n) : w.cell? ⟨B, x, none⟩ = some (.bool (decide (x ∈ D))) := by
 rw [h.cell x (by simpa using hx)]; simp
theorem op_atR {w : World} {lo g n cap : Nat} {l : List Nat} (h : w.ownsRow lo 2 1 (.slice (some ⟨g, 0, none⟩) n cap) n (intsN l)) {i : Nat} (hi : i < l.length) (hn : l.length = n) : w.cell? ⟨g, i, none⟩ = some (.int .i64 (l[i] : Int)) := by
 rw [h.cellAt i (by omega)]
 unfold intsN
 rw [List.getElem?_map, List.getElem?_eq_getElem hi]; rfl
def rAt (l : List Nat) (i : Nat) : Nat := l[i]?.getD 0
theorem rAt_eq {l : List Nat} {i : Nat} (h : i < l.length) : rAt l i = l[i] := by simp [rAt, h]
theorem tkV_rep {N k : Nat} {v : Int} (hk : k < N) : (tkV (List.replicate N v) k N).set k (.int .i64 v) = tkV (List.replicate N v) (k + 1) N := by
 rw [← tkV_set hk (by simp)]
 congr 2
 simp

set_option maxRecDepth 100000 in
set_option maxHeartbeats 20000000 in
theorem l10Reach_any (a0 : Option Addr) (n0 c0 : Nat) (a1 : Option Addr) (n1 c1 : Nat) (a2 : Option Addr) (n2 c2 : Nat) (g : GraphD) (b0 b1 b2 : List Nat) (p : Nat) (d : Nat → Option Cst) (w : World) (t0 : SpotL w a0 g.places b0) (t1 : RoadL w a1 g.roads b1) (t2 : BanL w a2 g.bans b2) (e0 : g.places.length = n0) (e1 : g.roads.length = n1) (e2 : g.bans.length = n2) (hP : graphP g) (hp : p < n0)
  (hd : Least (IB (mkS n1 false) g (p : Int)) (WB (mkS n1 false) g) d) (hdc : ∀ x c, d x = some c → 0 ≤ c.t) :
  Calls Tryz.prog 18 #[gphV a0 n0 c0 a1 n1 c1 a2 n2 c2, .int .i64 (p : Int)] w fun e w' => ∃ B, e = .returned (.slice (some ⟨B, 0, none⟩) n0 n0) ∧ w'.ownsRow w.heap.size 2 1 (.slice (some ⟨B, 0, none⟩) n0 n0) n0 (intsV (rcL n0 n1 g d (p : Int))) ∧ Bel w w' := by
 have H0 : Hid (g.places.length = n0) := e0
 have H1 : Hid (g.roads.length = n1) := e1
 have H2 : Hid (g.bans.length = n2) := e2
 have HP : Hid (graphP g) := hP
 have Hld : Hid (Least (IB (mkS n1 false) g (p : Int)) (WB (mkS n1 false) g) d) := hd
 have Hdc : Hid (∀ x c, d x = some c → 0 ≤ c.t) := hdc
 have m0 : n0 ≤ 5000 := by rw [← e0]; exact hP.1.1
 have m1 : n1 ≤ 8000 := by rw [← e1]; exact hP.1.2.1
 obtain ⟨i0, hi0, hz0, hz1, hz2⟩ := info_parts infoI64
 have hmk : ∀ (k : Nat) (w : World), k ≤ 8000 → (Instr.makeSlice 46 (.int .i64 k) (.int .i64 k)).run Tryz.prog w = .ok (.slice (some ⟨w.heap.size, 0, none⟩) k k) (w.alloc (.cells (madeCells #[.int .i64 0] k) 2)) := fun k w hk => by
  have := run_make (P := Tryz.prog) w 46 2 i0 (.int .i64 0) Tryz.underlying46 hi0 hz0 .i64 .i64 k k (by omega) (by omega) (by rw [hz2]; omega) (by omega)
  rw [hz1, Nat.mul_one] at this
  exact this
 have hmk0 := fun w => hmk n0 w (by omega)
 have hmk1 := fun w => hmk n1 w (by omega)
 have hmb : ∀ w : World, (Instr.makeSlice 75 (.int .i64 n1) (.int .i64 n1)).run Tryz.prog w = .ok (.slice (some ⟨w.heap.size, 0, none⟩) n1 n1) (w.alloc (.cells (madeCells #[.bool false] n1) 4)) := fun w => by
  obtain ⟨i0, hi, hz0, hz1, hz2⟩ := info_parts infoBr
  have := run_make (P := Tryz.prog) w 75 4 i0 (.bool false) Tryz.underlying75 hi hz0 .i64 .i64 n1 n1 (by omega) (by omega) (by rw [hz2]; omega) (by omega)
  rw [hz1, Nat.mul_one] at this
  exact this
 clear hmk
 obtain ⟨nw, Hnw⟩ : ∃ n, Hid (w.heap.size = n) := ⟨_, (rfl : w.heap.size = _)⟩
 obtain ⟨R0, HR0⟩ : ∃ R, Hid (List.replicate n0 (-1 : Int) = R) := ⟨_, (rfl : List.replicate n0 (-1 : Int) = _)⟩
 obtain ⟨W, HW⟩ : ∃ W, Hid (W = (w.alloc (.cells #[.slice a0 n0 c0, .slice a1 n1 c1, .slice a2 n2 c2] 34)).alloc (.cells (madeCells #[.int .i64 0] n0) 2)) := ⟨_, (rfl : (w.alloc (.cells #[.slice a0 n0 c0, .slice a1 n1 c1, .slice a2 n2 c2] 34)).alloc (.cells (madeCells #[.int .i64 0] n0) 2) = _)⟩
 have HBW : Hid (Bel w W) := (by rw [HW.out]; exact bel_alloc (bel_alloc (Bel.refl _) _) _ : Bel w W)
 have HXG : Hid (Blk W nw [.slice a0 n0 c0, .slice a1 n1 c1, .slice a2 n2 c2]) := (by rw [HW.out, ← Hnw.out]; exact (Blk.new w [.slice a0 n0 c0, .slice a1 n1 c1, .slice a2 n2 c2] _).bel (bel_alloc (Bel.refl _) _) : Blk W nw [.slice a0 n0 c0, .slice a1 n1 c1, .slice a2 n2 c2])
 have HO0 : Hid (W.ownsRow (nw + 1) 2 1 (.slice (some ⟨nw + 1, 0, none⟩) n0 n0) n0 (tkV R0 0 n0)) := (by
  rw [HW.out, tkV_zero, ← toList_madeCells_one]
  have h := World.ownsRow_lit (base := nw + 1) (e := 2) (size := 1) (w.alloc (.cells #[.slice a0 n0 c0, .slice a1 n1 c1, .slice a2 n2 c2] 34)) (madeCells #[.int .i64 0] n0) n0 (by simp [Hnw.out]) (by unfold maxLen; omega) (by rw [← Array.length_toList, toList_madeCells_one]; simp)
  simpa [Hnw.out] using h : W.ownsRow (nw + 1) 2 1 (.slice (some ⟨nw + 1, 0, none⟩) n0 n0) n0 (tkV R0 0 n0))
 have HT0 : Hid (SpotL w a0 g.places b0) := t0
 have HT1 : Hid (RoadL w a1 g.roads b1) := t1
 have HT2 : Hid (BanL w a2 g.bans b2) := t2
 have HPl : Hid (∀ i, i < n1 → ∃ q : Nat, q < n0 ∧ (rdAt g i).to = (q : Int)) := (fun i h => by
  have hi : i < g.roads.length := by rw [H1.out]; exact h
  obtain ⟨q, hq, e⟩ := inN_nat (n := g.places.length) (x := g.roads[i].to) (inN_iff.2 (roadB_out (HP.out.2.2.1 i hi)).2.1)
  exact ⟨q, by omega, by rw [rdAt_eq hi]; exact e⟩ : ∀ i, i < n1 → ∃ q : Nat, q < n0 ∧ (rdAt g i).to = (q : Int))
 obtain ⟨FL, HFL⟩ : ∃ l, Hid (rcL n0 n1 g d (p : Int) = l) := ⟨_, (rfl : rcL n0 n1 g d (p : Int) = _)⟩
 rw [HFL.out, Hnw.out]
 clear t0 t1 t2 hP hd hdc e0 e1 e2
 go_enter Tryz.func18, Tryz.ntmps18
 go_upto_region 3 with fail
 rw [← HW.out, Hnw.out]
 clear hmk0
 go_wp2_with fail
 go_loopw [7] (fun i wr => ∃ k : Nat, k ≤ n0 ∧ i = .int .i64 k ∧ Hid (wr.ownsRow (nw + 1) 2 1 (.slice (some ⟨nw + 1, 0, none⟩) n0 n0) n0 (tkV R0 k n0)) ∧ Hid (Bel w wr) ∧ Hid (Blk wr nw [.slice a0 n0 c0, .slice a1 n1 c1, .slice a2 n2 c2])) (fun i _ => n0 - (intOf i).toNat)
 case atStart => exact ⟨0, Nat.zero_le _, rfl, HO0, HBW, HXG⟩
 case round =>
  clear HO0 HBW HXG
  obtain ⟨k, hk, rfl, HO, HB, HXg⟩ := hrel
  by_cases hlt : k < n0
  ·as_aux_lemma =>
   have HRk : Hid ((tkV R0 k n0).set k (.int .i64 (-1)) = tkV R0 (k + 1) n0) := (by rw [← HR0.out]; exact tkV_rep hlt : (tkV R0 k n0).set k (.int .i64 (-1)) = tkV R0 (k + 1) n0)
   have hltI : (k : Int) < (n0 : Int) := by omega
   have o1 : wr.cell? ⟨nw + 1, k, none⟩ = some ((tkV R0 k n0)[k]'(by rw [tkV_len]; exact hlt)) := by rw [HO.out.cellAt k (by omega), List.getElem?_eq_getElem]
   have o2 := World.ownsRow.frozenAt HO.out k
   have o3 := (World.ownsRow.lt HO.out (nw + 1) rfl).2
   have HO8 : Hid ((wr.setCell ⟨nw + 1, k, none⟩ (.int .i64 (-1))).ownsRow (nw + 1) 2 1 (.slice (some ⟨nw + 1, 0, none⟩) n0 n0) n0 (tkV R0 (k + 1) n0)) := (by rw [← HRk.out]; exact (World.ownsRow.stored HO.out k _).1 : (wr.setCell ⟨nw + 1, k, none⟩ (.int .i64 (-1))).ownsRow (nw + 1) 2 1 (.slice (some ⟨nw + 1, 0, none⟩) n0 n0) n0 (tkV R0 (k + 1) n0))
   have HB8 : Hid (Bel w (wr.setCell ⟨nw + 1, k, none⟩ (.int .i64 (-1)))) := bel_set HB.out (by rw [Hnw.out]; show nw ≤ nw + 1; omega) _
   have HX8 : Hid (Blk (wr.setCell ⟨nw + 1, k, none⟩ (.int .i64 (-1))) nw [.slice a0 n0 c0, .slice a1 n1 c1, .slice a2 n2 c2]) := HXg.out.far (by omega)
   obtain ⟨old, Hold⟩ : ∃ v, Hid ((tkV R0 k n0)[k]'(by rw [tkV_len]; exact hlt) = v) := ⟨_, (rfl : (tkV R0 k n0)[k]'(by rw [tkV_len]; exact hlt) = _)⟩
   rw [Hold.out] at o1
   go_wp2
   go_roundw
   case rel => exact ⟨k + 1, by omega, by go_num, HO8, HB8, HX8⟩
   case measure => simp [intOf]; omega
  ·have e : n0 = k := by omega
   have HOE : Hid (wr.ownsRow (nw + 1) 2 1 (.slice (some ⟨nw + 1, 0, none⟩) n0 n0) n0 (intsV R0)) := (by
    have h := HO.out
    rw [← e, tkV_all (by rw [← HR0.out]; simp)] at h
    exact h : wr.ownsRow (nw + 1) 2 1 (.slice (some ⟨nw + 1, 0, none⟩) n0 n0) n0 (intsV R0))
   have hge : ¬ (k : Int) < (n0 : Int) := by omega
   clear HO e
   have HRl : Hid (R0.length = n0) := (by rw [← HR0.out]; simp : R0.length = n0)
   have o1 := ov_at HOE.out HRl.out hp
   have o2 := World.ownsRow.frozenAt HOE.out p
   have o3 := (World.ownsRow.lt HOE.out (nw + 1) rfl).2
   have hpI : (p : Int) < (n0 : Int) := by omega
   obtain ⟨ov, Hov⟩ : ∃ v, Hid (iAt R0 p = v) := ⟨_, (rfl : iAt R0 p = _)⟩
   rw [Hov.out] at o1
   obtain ⟨W3, HW3⟩ : ∃ X, Hid (X = wr.setCell ⟨nw + 1, p, none⟩ (.int .i64 0)) := ⟨_, (rfl : wr.setCell ⟨nw + 1, p, none⟩ (.int .i64 0) = _)⟩
   obtain ⟨O0, HO0⟩ : ∃ l, Hid (R0.set p 0 = l) := ⟨_, (rfl : R0.set p 0 = _)⟩
   have hO3 : W3.ownsRow (nw + 1) 2 1 (.slice (some ⟨nw + 1, 0, none⟩) n0 n0) n0 (intsV O0) := by
    rw [HW3.out, ← HO0.out, intsV_set]
    exact (World.ownsRow.stored HOE.out p _).1
   have hG3 : Blk W3 nw [.slice a0 n0 c0, .slice a1 n1 c1, .slice a2 n2 c2] := by rw [HW3.out]; exact HXg.out.far (by omega)
   have hB3 : Bel w W3 := by rw [HW3.out]; exact bel_set HB.out (by rw [Hnw.out]; show nw ≤ nw + 1; omega) _
   have hs3 : W3.heap.size = wr.heap.size := by rw [HW3.out]; simp
   obtain ⟨X, HX⟩ : ∃ X, Hid (X = ((W3.alloc (.cells (madeCells #[.int .i64 0] n1) 2)).alloc (.cells (madeCells #[.bool false] n1) 4)).alloc (.cells #[] 2)) := ⟨_, (rfl : ((W3.alloc (.cells (madeCells #[.int .i64 0] n1) 2)).alloc (.cells (madeCells #[.bool false] n1) 4)).alloc (.cells #[] 2) = _)⟩
   have hbX : Bel W3 X := by rw [HX.out]; exact bel_alloc (bel_alloc (bel_alloc (Bel.refl _) _) _) _
   obtain ⟨Bt, HBt⟩ : ∃ n, Hid (wr.heap.size = n) := ⟨_, (rfl : wr.heap.size = _)⟩
   have hT4 : Blk X Bt (List.replicate n1 (.int .i64 0)) := by rw [HX.out, ← HBt.out, ← hs3]; exact ((blk_made (heap_alloc_new W3 (.cells (madeCells #[.int .i64 0] n1) 2))).bel (bel_alloc (bel_alloc (Bel.refl _) _) _))
   have hD4 : Blk X (Bt + 1) (List.replicate n1 (.bool false)) := by
    rw [HX.out, ← HBt.out, ← hs3]
    have h := (blk_made (heap_alloc_new (W3.alloc (.cells (madeCells #[.int .i64 0] n1) 2)) (.cells (madeCells #[.bool false] n1) 4))).bel (bel_alloc (Bel.refl _) (.cells #[] 2))
    simpa using h
   have hP4 : X.ownsRow (Bt + 1 + 1) 2 1 (.slice (some ⟨Bt + 1 + 1, 0, none⟩) 0 0) 0 [] := by
    rw [HX.out, ← HBt.out, ← hs3]
    have h := World.ownsRow_lit (base := W3.heap.size + 1 + 1) (e := 2) (size := 1) ((W3.alloc (.cells (madeCells #[.int .i64 0] n1) 2)).alloc (.cells (madeCells #[.bool false] n1) 4)) #[] 0 (by simp) (Nat.zero_le _) rfl
    simpa using h
   have hO4 := own_bel hO3 hbX
   have hG4 := hG3.bel hbX
   have hB4 := bel_step hB3 hbX
   have hoB : nw + 1 < Bt := by rw [← HBt.out]; exact o3
   have hXs : X.heap.size = Bt + 1 + 1 + 1 := by rw [HX.out, ← HBt.out, ← hs3]; simp
   have cA := l10At_any a0 n0 c0 a1 n1 c1 a2 n2 c2 g b1 false X (HT1.out.bel roadE hB4) H0.out H1.out HP.out
   have HcA : Hid (Calls Tryz.prog 36 #[gphV a0 n0 c0 a1 n1 c1 a2 n2 c2, .bool false] X fun e w' => AtOut X g (!false) e w') := cA
   have g0 : W3.cell? ⟨nw, 0, none⟩ = some (.slice a0 n0 c0) := hG3.cell 0 (by simp)
   have g1 : W3.cell? ⟨nw, 1, none⟩ = some (.slice a1 n1 c1) := hG3.cell 1 (by simp)
   have g2 : W3.cell? ⟨nw, 2, none⟩ = some (.slice a2 n2 c2) := hG3.cell 2 (by simp)
   have gl := hG3.lt
   have x0 : X.cell? ⟨nw, 0, none⟩ = some (.slice a0 n0 c0) := hG4.cell 0 (by simp)
   have x1 : X.cell? ⟨nw, 1, none⟩ = some (.slice a1 n1 c1) := hG4.cell 1 (by simp)
   have x2 : X.cell? ⟨nw, 2, none⟩ = some (.slice a2 n2 c2) := hG4.cell 2 (by simp)
   have xl := hG4.lt
   clear cA hbX hG3 hO3 hB3
   go_upto_region 8 with fail
   rw [← HW3.out]
   clear o1 o2 o3
   go_upto_region 11 with fail
   rw [← HX.out]
   try rw [hs3]
   try rw [HBt.out]
   clear g0 g1 g2 gl hmk1 hmb
   go_wp2_with fail
   refine HcA.out.mono ?_
   rintro e wA ⟨⟨lo2, BE, V, rfl, hTab, hBE, hlo2, hbA⟩⟩
   rw [H0.out, H1.out] at hTab
   rw [H0.out]
   obtain ⟨s0, Hs0⟩ : ∃ n, Hid (X.heap.size = n) := ⟨_, (rfl : X.heap.size = _)⟩
   rw [Hs0.out] at hBE hlo2 hXs
   have hsA : s0 ≤ wA.heap.size := by rw [← Hs0.out]; exact hbA.out.size
   have hMP : MbP (Bt + 1 + 1) s0 Bt (nw + 1) (Bt + 1) wA := ⟨by omega, by omega, by omega, by omega, by omega, by omega, by omega, hsA⟩
   have HMP : Hid (MbP (Bt + 1 + 1) s0 Bt (nw + 1) (Bt + 1) wA) := hMP
   have HTab : Hid (Tab1 lo2 wA BE n0 V (bgF g.roads n1 true)) := hTab
   have HTA : Hid (Blk wA Bt (tkV (List.replicate n1 (-1)) 0 n1)) := (by rw [tkV_zero]; exact hT4.bel hbA : Blk wA Bt (tkV (List.replicate n1 (-1)) 0 n1))
   have HDA : Hid (Blk wA (Bt + 1) (dnV n1 [])) := (by
    have e : dnV n1 [] = List.replicate n1 (.bool false) := by
     apply List.ext_getElem
     ·simp
     ·intro i h1 h2
      simp
    rw [e]
    exact hD4.bel hbA : Blk wA (Bt + 1) (dnV n1 []))
   have HPA : Hid (wA.ownsRow (Bt + 1 + 1) 2 1 (.slice (some ⟨Bt + 1 + 1, 0, none⟩) 0 0) 0 []) := own_bel hP4 hbA
   have HOA : Hid (wA.ownsRow (nw + 1) 2 1 (.slice (some ⟨nw + 1, 0, none⟩) n0 n0) n0 (intsV O0)) := own_bel hO4 hbA
   have HXGA : Hid (Blk wA nw [.slice a0 n0 c0, .slice a1 n1 c1, .slice a2 n2 c2]) := hG4.bel hbA
   have HBA : Hid (Bel w wA) := bel_step hB4 hbA
   have HGr : Hid (∀ w', Frx (fun y => y ≠ Bt ∧ y ≠ nw + 1 ∧ y ≠ Bt + 1 ∧ (y < Bt + 1 + 1 ∨ s0 ≤ y)) wA w' → Bel w w' ∧ Blk w' nw [.slice a0 n0 c0, .slice a1 n1 c1, .slice a2 n2 c2]) := (fun w' hf => ⟨HBA.out.out.trans (hf.below (fun y hy => by rw [Hnw.out] at hy; exact ⟨by omega, by omega, by omega, .inl (by omega)⟩) HBA.out.out.size), hf.blk HXGA.out ⟨by omega, by omega, by omega, .inl (by omega)⟩⟩ : ∀ w', Frx (fun y => y ≠ Bt ∧ y ≠ nw + 1 ∧ y ≠ Bt + 1 ∧ (y < Bt + 1 + 1 ∨ s0 ≤ y)) wA w' → Bel w w' ∧ Blk w' nw [.slice a0 n0 c0, .slice a1 n1 c1, .slice a2 n2 c2])
   have HTr : Hid (∀ q, q < n0 → ∃ ra rc, ∀ w', Frx (fun y => y ≠ Bt ∧ y ≠ nw + 1 ∧ y ≠ Bt + 1 ∧ (y < Bt + 1 + 1 ∨ s0 ≤ y)) wA w' → w'.cell? ⟨BE, q, none⟩ = some (.slice ra (bgF g.roads n1 true q).length rc) ∧ w'.ownsRow lo2 2 1 (.slice ra (bgF g.roads n1 true q).length rc) (bgF g.roads n1 true q).length (intsN (bgF g.roads n1 true q)) ∧ BE < w'.heap.size) := (fun q hq => by
    obtain ⟨ra, rc, hv⟩ := own_shape (HTab.out.rows q hq)
    refine ⟨ra, rc, fun w' hf => ?_⟩
    have h' := HTab.out.frx hf ⟨by omega, by omega, by omega, .inr hBE⟩ (fun p' k hp' e => by
     have h1 := ((HTab.out.rows p' hp').lt k e).1
     exact ⟨by omega, by omega, by omega, .inr (by omega)⟩)
    have h1 := h'.cell q hq
    have h2 := h'.rows q hq
    rw [hv] at h1 h2
    exact ⟨h1, h2, by have := h'.lt; have := h'.sz; omega⟩ : ∀ q, q < n0 → ∃ ra rc, ∀ w', Frx (fun y => y ≠ Bt ∧ y ≠ nw + 1 ∧ y ≠ Bt + 1 ∧ (y < Bt + 1 + 1 ∨ s0 ≤ y)) wA w' → w'.cell? ⟨BE, q, none⟩ = some (.slice ra (bgF g.roads n1 true q).length rc) ∧ w'.ownsRow lo2 2 1 (.slice ra (bgF g.roads n1 true q).length rc) (bgF g.roads n1 true q).length (intsN (bgF g.roads n1 true q)) ∧ BE < w'.heap.size)
   have HRO0 : Hid (∀ tl, RO n0 g p [] tl O0) := (fun tl => by rw [← HO0.out, ← HR0.out]; exact RO.first hp : ∀ tl, RO n0 g p [] tl O0)
   have Hlos : Hid (Bt + 1 + 1 < s0 ∧ s0 ≤ BE ∧ s0 ≤ lo2) := ⟨by omega, hBE, hlo2⟩
   clear hT4 hD4 hP4 hO4 hG4 hB4 hTab hbA x0 x1 x2 xl HcA HX HOE HB HXg hMP
   go_upto_region 12 with fail
   go_wp2_with fail
   go_loopw [12] (fun i wr => ∃ k : Nat, k ≤ n1 ∧ i = .int .i64 k ∧ Hid (Blk wr Bt (tkV (List.replicate n1 (-1)) k n1)) ∧ Hid (Frx (fun y => y ≠ Bt) wA wr)) (fun i _ => n1 - (intOf i).toNat)
   case atStart => exact ⟨0, Nat.zero_le _, rfl, HTA, Frx.refl _ _⟩
   case round =>
    clear HTA
    obtain ⟨k, hk, rfl, HT, HF⟩ := hrel
    by_cases hlt : k < n1
    ·as_aux_lemma =>
     have hltI : (k : Int) < (n1 : Int) := by omega
     have o1 : wr.cell? ⟨Bt, k, none⟩ = some ((tkV (List.replicate n1 (-1)) k n1)[k]'(by rw [tkV_len]; exact hlt)) := HT.out.cell k (by rw [tkV_len]; exact hlt)
     have o2 := HT.out.free k
     have o3 := HT.out.lt
     have HT8 : Hid (Blk (wr.setCell ⟨Bt, k, none⟩ (.int .i64 (-1))) Bt (tkV (List.replicate n1 (-1)) (k + 1) n1)) := (by rw [← tkV_rep hlt]; exact HT.out.set k _ (by rw [tkV_len]; exact hlt) : Blk (wr.setCell ⟨Bt, k, none⟩ (.int .i64 (-1))) Bt (tkV (List.replicate n1 (-1)) (k + 1) n1))
     have HF8 : Hid (Frx (fun y => y ≠ Bt) wA (wr.setCell ⟨Bt, k, none⟩ (.int .i64 (-1)))) := HF.out.trans (Frx.stored (fun h => h rfl))
     obtain ⟨old, Hold⟩ : ∃ v, Hid ((tkV (List.replicate n1 (-1)) k n1)[k]'(by rw [tkV_len]; exact hlt) = v) := ⟨_, (rfl : (tkV (List.replicate n1 (-1)) k n1)[k]'(by rw [tkV_len]; exact hlt) = _)⟩
     rw [Hold.out] at o1
     go_wp2
     go_roundw
     case rel => exact ⟨k + 1, by omega, by go_num, HT8, HF8⟩
     case measure => simp [intOf]; omega
    ·have e : n1 = k := by omega
     have hge : ¬ (k : Int) < (n1 : Int) := by omega
     obtain ⟨ra, rc, hrw⟩ := HTr.out p hp
     obtain ⟨row, Hrow⟩ : ∃ l, Hid (bgF g.roads n1 true p = l) := ⟨_, (rfl : bgF g.roads n1 true p = _)⟩
     rw [Hrow.out] at hrw
     obtain ⟨rm, Hrm⟩ : ∃ n, Hid (row.length = n) := ⟨_, (rfl : row.length = _)⟩
     rw [Hrm.out] at hrw
     have hrm : rm ≤ 8000 := by rw [← Hrm.out, ← Hrow.out]; exact Nat.le_trans (bgF_len _ _ _ _) m1
     have HRn : Hid (∀ y ∈ row, y < n1) := (by rw [← Hrow.out]; exact fun y hy => bgF_mem hy : ∀ y ∈ row, y < n1)
     have Hrw : Hid (∀ w', Frx (fun y => y ≠ Bt ∧ y ≠ nw + 1 ∧ y ≠ Bt + 1 ∧ (y < Bt + 1 + 1 ∨ s0 ≤ y)) wA w' → w'.cell? ⟨BE, p, none⟩ = some (.slice ra rm rc) ∧ w'.ownsRow lo2 2 1 (.slice ra rm rc) rm (intsN row) ∧ BE < w'.heap.size) := hrw
     have HM0 : Hid (RtW (Bt + 1 + 1) s0 Bt (nw + 1) (Bt + 1) wA n1 n0 [] (rB n1 g row 0) O0 (some ⟨Bt + 1 + 1, 0, none⟩) 0 0 wr) := (by
      have hT := HT.out
      rw [← e, tkV_all (by simp)] at hT
      have hfx : Frx (fun y => y ≠ Bt ∧ y ≠ nw + 1 ∧ y ≠ Bt + 1 ∧ (y < Bt + 1 + 1 ∨ s0 ≤ y)) wA wr := HF.out.mono (fun k _ h => h.1)
      refine ⟨hT, own_frx HOA.out HF.out (fun k e => by have e : nw + 1 = k := (by simpa [Value.ownBlock] using e); omega), HF.out.blk HDA.out (by omega), own_frx HPA.out HF.out (fun k e => by have e : Bt + 1 + 1 = k := (by simpa [Value.ownBlock] using e); omega), rfl, fun k e => ?_, hfx⟩
      have e : Bt + 1 + 1 = k := by simpa [Value.ownBlock] using e
      have := Hlos.out.1
      left; omega : RtW (Bt + 1 + 1) s0 Bt (nw + 1) (Bt + 1) wA n1 n0 [] (rB n1 g row 0) O0 (some ⟨Bt + 1 + 1, 0, none⟩) 0 0 wr)
     have hpI : (p : Int) < (n0 : Int) := by omega
     clear HT HF hrw e HDA HPA HOA
     go_upto_region 16 with fail
     go_wp2_with fail
     go_loopw [10, 13] (fun vo i wr => ∃ (k : Nat) (va : Option Addr) (m vc : Nat), k ≤ rm ∧ vo = .slice va m vc ∧ i = .int .i64 k ∧ Hid (RtW (Bt + 1 + 1) s0 Bt (nw + 1) (Bt + 1) wA n1 n0 [] (rB n1 g row k) O0 va m vc wr)) (fun _ i _ => rm - (intOf i).toNat)
     case atStart => exact ⟨0, _, 0, 0, Nat.zero_le _, rfl, rfl, HM0⟩
     case round =>
      clear HM0 hge hk hlt
      obtain ⟨k, va, m, vc, hk, rfl, rfl, HM⟩ := hrel
      obtain ⟨r0, r1, r2⟩ := Hrw.out wr HM.out.fr
      by_cases hlt : k < rm
      ·as_aux_lemma =>
       have hkr : k < row.length := by rw [Hrm.out]; exact hlt
       obtain ⟨gr, gcc, ev, _, hgr⟩ := own_in r1 (by omega)
       simp only [Value.slice.injEq] at ev
       obtain ⟨rfl, _, rfl⟩ := ev
       have c1' : wr.cell? ⟨gr, k, none⟩ = some (.int .i64 (row[k] : Int)) := op_atR r1 hkr Hrm.out
       have hgrl := (World.ownsRow.lt r1 gr rfl).1
       have hyn : row[k] < n1 := HRn.out _ (List.getElem_mem hkr)
       have HS := rB_succ (N := n1) (g := g) hkr
       obtain ⟨y, Hy⟩ : ∃ y, Hid (row[k] = y) := ⟨_, (rfl : row[k] = _)⟩
       rw [Hy.out] at c1' hyn HS
       have HSc : Hid (rB n1 g row (k + 1) = ⟨(rB n1 g row k).tl.set y (rdAt g y).time, (rB n1 g row k).op ++ [y]⟩) := HS
       clear HS
       obtain ⟨cur, Hcur⟩ : ∃ c, Hid (rB n1 g row k = c) := ⟨_, (rfl : rB n1 g row k = _)⟩
       have hcl : cur.tl.length = n1 := by rw [← Hcur.out]; exact rB_len _ _ _ _ (by rw [Hrm.out]; exact hk)
       have hcm : m ≤ 8000 := by
        rw [← HM.out.ol_]
        show (row.take k).length ≤ 8000
        rw [List.length_take]
        omega
       rw [Hcur.out] at HM HSc
       obtain ⟨hBj, hXGj⟩ := HGr.out wr HM.out.fr
       have hyg : y < g.roads.length := by rw [H1.out]; exact hyn
       obtain ⟨b, off, f, ea, hb, hx⟩ := HT1.out.out hyg
       have hbn : b < nw := by rw [← Hnw.out]; exact hb
       obtain ⟨_, _, _, _, _, _, _, _, _, _, y3, _⟩ := hx y hyg
       have y3' := bel_cellM hBj hb y3
       rw [← rdAt_eq hyg] at y3'
       obtain ⟨ti, Hti⟩ : ∃ t, Hid ((rdAt g y).time = t) := ⟨_, (rfl : (rdAt g y).time = _)⟩
       rw [Hti.out] at y3' HSc
       have v1 : wr.cell? ⟨nw, 1, none⟩ = some (.slice a1 n1 c1) := hXGj.cell 1 (by simp)
       rw [ea] at v1
       have HS19 : wr.drew.cell? ⟨BE, p, none⟩ = some (.slice (some ⟨gr, 0, none⟩) rm rc) ∧ wr.drew.cell? ⟨gr, k, none⟩ = some (.int .i64 (y : Int)) ∧ wr.drew.cell? ⟨nw, 1, none⟩ = some (.slice (some ⟨b, off, none⟩) n1 c1) ∧ wr.drew.cell? ⟨b, off + y * 6 + 3, none⟩ = some (.int .i64 ti) := ⟨r0, c1', v1, y3'⟩
       have t0' : wr.drew.cell? ⟨Bt, y, none⟩ = some (.int .i64 (iAt cur.tl y)) := iv_at HM.out.tm (by rw [hcl]; exact hyn)
       have t1' : wr.drew.frozen? ⟨Bt, y, none⟩ = false := HM.out.tm.free y
       have t2' : Bt < wr.drew.heap.size := HM.out.tm.lt
       obtain ⟨ot, Hot⟩ : ∃ t, Hid (iAt cur.tl y = t) := ⟨_, (rfl : iAt cur.tl y = _)⟩
       rw [Hot.out] at t0'
       have HM1 : Hid (RtW (Bt + 1 + 1) s0 Bt (nw + 1) (Bt + 1) wA n1 n0 [] ⟨cur.tl.set y ti, cur.op⟩ O0 va m vc (wr.drew.setCell ⟨Bt, y, none⟩ (.int .i64 ti))) := (HM.out.bel (Bel.refl _).drew).time HMP.out y ti (by rw [hcl]; exact hyn)
       have hltI : (k : Int) < (rm : Int) := by omega
       have hyI : (y : Int) < (n1 : Int) := by omega
       have hls := Hlos.out
       have n1' : BE ≠ Bt := by omega
       have n2' : gr ≠ Bt := by omega
       have n3' : nw ≠ Bt := by omega
       have n4' : b ≠ Bt := by omega
       clear ea hx y3 y3' v1 hXGj hBj r1
       go_upto_region 19 with fail
       clear r0 c1'
       refine wp_region_noPanic ?_
       refine wp_region_held_drew (S := fun w' => w'.cell? ⟨BE, p, none⟩ = some (.slice (some ⟨gr, 0, none⟩) rm rc) ∧ w'.cell? ⟨gr, k, none⟩ = some (.int .i64 (y : Int)) ∧ w'.cell? ⟨nw, 1, none⟩ = some (.slice (some ⟨b, off, none⟩) n1 c1) ∧ w'.cell? ⟨b, off + y * 6 + 3, none⟩ = some (.int .i64 ti)) (by kernel_rfl) HS19 (fun hHeld => ?_)
       clear HS19
       generalize wr.drew = Y at hHeld t0' t1' t2' HM1 ⊢
       refine tk 0 hHeld ?_; refine tk 1 hHeld ?_; refine tk 2 hHeld ?_; refine tk 3 hHeld ?_; refine tk 4 hHeld ?_; refine tk 5 hHeld ?_; refine tk 6 hHeld ?_; refine tk 7 hHeld ?_; refine tk 8 hHeld ?_; refine tk 9 hHeld ?_; refine tk 10 hHeld ?_; refine tk 11 hHeld ?_; refine tk 12 hHeld ?_; refine tk 13 hHeld ?_; refine tk 14 hHeld ?_; refine tk 15 hHeld ?_; refine tk 16 hHeld ?_; refine tk 17 hHeld ?_; refine tk 18 hHeld ?_; refine tk 19 hHeld ?_; refine tk 20 hHeld ?_
       refine rd1 21 (fun K hK => ?_)
       go_simp
       refine hK.out _ _ ⟨by rw [World.cell?_setCell_other _ _ _ _ (fun e => n1' (congrArg Addr.block e).symm)]; exact hHeld.1, by rw [World.cell?_setCell_other _ _ _ _ (fun e => n2' (congrArg Addr.block e).symm)]; exact hHeld.2.1, by rw [World.cell?_setCell_other _ _ _ _ (fun e => n3' (congrArg Addr.block e).symm)]; exact hHeld.2.2.1, by rw [World.cell?_setCell_other _ _ _ _ (fun e => n4' (congrArg Addr.block e).symm)]; exact hHeld.2.2.2⟩ ?_; clear hK K hHeld; intro hHeld
       try simp only [Act.put, List.setIfInBounds_toArray, List.set_cons_zero, List.set_cons_succ]
       refine wpAnyH_done (by kernel_rfl) ?_ _
       refine NoPanic.normal ?_
       obtain ⟨W4, HW4⟩ : ∃ X, Hid (X = Y.setCell ⟨Bt, y, none⟩ (.int .i64 ti)) := ⟨_, (rfl : Y.setCell ⟨Bt, y, none⟩ (.int .i64 ti) = _)⟩
       rw [← HW4.out] at HM1 hHeld ⊢
       clear t0' t1' t2' HW4
       obtain ⟨p0, p1, _, _⟩ := hHeld
       obtain ⟨_, w1', w2'⟩ := Hrw.out W4 HM1.out.fr
       have w3' := (World.ownsRow.lt w1' gr rfl).2
       have hownA : (W4.alloc (.cells #[.int .i64 (y : Int)] 2)).ownsRow (Bt + 1 + 1) 2 1 (.slice va m vc) m (intsN cur.op) := World.ownsRow.alloc HM1.out.op _
       have HN : Hid (∀ j u, [Value.int .i64 (y : Int)][j]? = some u → (W4.alloc (.cells #[.int .i64 (y : Int)] 2)).cell? (Addr.add ⟨W4.heap.size, 0, none⟩ j) = some u) := World.news_of_block (cs := #[.int .i64 (y : Int)]) (heap_alloc_new W4 _)
       have hlos : Bt + 1 + 1 ≤ W4.heap.size := by have := HM1.out.fr.size; have := HMP.out.z; omega
       clear w1'
       go_wp2_with (first
        | (at_builtin; refine wpList_append_lies _ rfl _ _ 46 rfl (Bt + 1 + 1) 2 i0 (.int .i64 0) 1 8 Tryz.underlying46 hi0 hz0 hz1 hz2 rfl (by decide) _ _ _ rfl hownA ⟨W4.heap.size, 0, none⟩ 1 1 [.int .i64 (y : Int)] rfl rfl HN.out (by simp [Value.oneCell']) (by decide) (by unfold maxLen; omega) (by omega) (by simp; omega) (W4.heap.size + 1) (by simp) ?_)
        | go_in)
       intro g2 cap2 w9 hown2 hgrow hat _
       have HM2 : Hid (RtW (Bt + 1 + 1) s0 Bt (nw + 1) (Bt + 1) wA n1 n0 [] (rB n1 g row (k + 1)) O0 (some ⟨g2, 0, none⟩) (m + 1) cap2 w9) := (by
        rw [HSc.out]
        exact HM1.out.push HMP.out (bel_alloc (Bel.refl W4) _) hown2 hgrow (by simpa using hat) : RtW (Bt + 1 + 1) s0 Bt (nw + 1) (Bt + 1) wA n1 n0 [] (rB n1 g row (k + 1)) O0 (some ⟨g2, 0, none⟩) (m + 1) cap2 w9)
       clear hown2 hgrow hat hownA p0 p1 w2' w3'
       go_wp2
       go_roundw
       case rel => exact ⟨k + 1, _, _, _, by omega, rfl, by go_num, HM2⟩
       case measure => simp [intOf]; omega
      ·have hge : ¬ (k : Int) < (rm : Int) := by omega
       have HJ0 : Hid (RJ (mkS n1 false) g (p : Int) [] (rB n1 g row rm)) := (by
        rw [← Hrm.out, ← Hrow.out]
        exact RJ.start (S := mkS n1 false) HP.out H1.out : RJ (mkS n1 false) g (p : Int) [] (rB n1 g row rm))
       have e : rm = k := by omega
       have HB00 : Hid (RtB (Bt + 1 + 1) s0 Bt (nw + 1) (Bt + 1) wA n1 n0 g p (n1 - 0) (.slice va m vc) wr) := ⟨[], rB n1 g row rm, O0, va, m, vc, rfl, HJ0.out, HRO0.out _, (by rw [e]; exact HM.out), rfl⟩
       clear HM HJ0 e
       go_upto_region 21 with fail
       clear r0 r1 r2 hge hk hlt
       go_wp2_with fail
       go_loopw [10, 14, 15, 16, 17, 18, 19, 20, 21] (fun vo _ _ _ _ _ _ _ _ wr => ∃ N, Hid (RtB (Bt + 1 + 1) s0 Bt (nw + 1) (Bt + 1) wA n1 n0 g p N vo wr)) (fun vo _ _ _ _ _ _ _ _ wr => lstN fun N => Hid (RtB (Bt + 1 + 1) s0 Bt (nw + 1) (Bt + 1) wA n1 n0 g p N vo wr))
       case atStart => exact ⟨_, HB00⟩
       case round =>
        clear HB00 Hrw HRn hrm
        have hrel' : Hid (RtB (Bt + 1 + 1) s0 Bt (nw + 1) (Bt + 1) wA n1 n0 g p (lstN fun N => Hid (RtB (Bt + 1 + 1) s0 Bt (nw + 1) (Bt + 1) wA n1 n0 g p N u10 wr)) u10 wr) := lstN_at hrel
        obtain ⟨LN, HLN⟩ : ∃ n, Hid ((lstN fun N => Hid (RtB (Bt + 1 + 1) s0 Bt (nw + 1) (Bt + 1) wA n1 n0 g p N u10 wr)) = n) := ⟨_, (rfl : (lstN fun N => Hid (RtB (Bt + 1 + 1) s0 Bt (nw + 1) (Bt + 1) wA n1 n0 g p N u10 wr)) = _)⟩
        rw [HLN.out] at hrel'
        obtain ⟨D, s, ol, va, m, vc, rfl, hJ, hRO, hM, hN⟩ := hrel'.out
        have HJ : Hid (RJ (mkS n1 false) g (p : Int) D s) := hJ
        have HRO : Hid (RO n0 g p D s.tl ol) := hRO
        have HM : Hid (RtW (Bt + 1 + 1) s0 Bt (nw + 1) (Bt + 1) wA n1 n0 D s ol va m vc wr) := hM
        have HNN : Hid (LN = n1 - D.length) := hN
        have hom : m ≤ n1 := by rw [← hM.ol_]; exact hJ.ol
        clear hJ hM hN hRO hrel hrel'
        by_cases hm : m = 0
        ·as_aux_lemma =>
         have HE : Hid (s.op = []) := (by have h := HM.out.ol_; rw [hm] at h; exact List.length_eq_zero_iff.1 h : s.op = [])
         have HOe : Hid (ol = FL) := (by rw [← HFL.out]; exact HRO.out.list HJ.out HE.out HP.out H1.out Hld.out Hdc.out : ol = FL)
         have HOo : Hid (wr.ownsRow nw 2 1 (.slice (some ⟨nw + 1, 0, none⟩) n0 n0) n0 (intsV FL)) := (by rw [← HOe.out]; exact own_lo HM.out.ou (by omega) : wr.ownsRow nw 2 1 (.slice (some ⟨nw + 1, 0, none⟩) n0 n0) n0 (intsV FL))
         have hBe := (HGr.out wr HM.out.fr).1
         subst hm
         go_wp2
         go_ret
         exact ⟨nw + 1, rfl, HOo.out, hBe⟩
        ·obtain ⟨mm, rfl⟩ : ∃ k, m = k + 1 := ⟨m - 1, by omega⟩
         obtain ⟨ga, gc, ev, _, hga⟩ := own_in HM.out.op (by omega)
         simp only [Value.slice.injEq, true_and] at ev
         obtain ⟨rfl, rfl⟩ := ev
         have Hop : Hid (∀ i, i < mm + 1 → ∀ w', Bel wr w' → w'.cell? ⟨ga, i, none⟩ = some (.int .i64 (rAt s.op i : Int))) := (fun i hi w' hb => by
          have h := op_atR (own_bel HM.out.op hb) (i := i) (by rw [HM.out.ol_]; exact hi) HM.out.ol_
          rw [h, rAt_eq (by rw [HM.out.ol_]; exact hi)] : ∀ i, i < mm + 1 → ∀ w', Bel wr w' → w'.cell? ⟨ga, i, none⟩ = some (.int .i64 (rAt s.op i : Int)))
         have Hon : Hid (∀ i, i < mm + 1 → rAt s.op i < n1 ∧ rAt s.op i ∉ D) := (fun i hi => by
          have hi' : i < s.op.length := by rw [HM.out.ol_]; exact hi
          have h := (HJ.out.opn (rAt s.op i)).1 (by rw [rAt_eq hi']; exact List.getElem_mem _)
          exact ⟨h.1, h.2.1⟩ : ∀ i, i < mm + 1 → rAt s.op i < n1 ∧ rAt s.op i ∉ D)
         have Hdl : Hid (s.tl.length = n1) := HJ.out.len
         have hgt : decide ((0 : Int) < ((mm + 1 : Nat) : Int)) = true := by simp
         clear hm
         go_wp2
         obtain ⟨wo, rfl⟩ : ∃ V, V = wr := ⟨_, rfl⟩
         go_loopw [14, 15] (fun kv iv wr => ∃ kk j : Nat, kk < j ∧ j ≤ mm + 1 ∧ kv = .int .i64 kk ∧ iv = .int .i64 j ∧ Hid (∀ t, t < j → iAt s.tl (rAt s.op kk) ≤ iAt s.tl (rAt s.op t)) ∧ Hid (Bel wo wr)) (fun _ iv _ => mm + 1 - (intOf iv).toNat)
         case atStart => exact ⟨0, 1, by omega, by omega, rfl, rfl, (fun t ht => by obtain rfl : t = 0 := (by omega); exact Int.le_refl _), Bel.refl _⟩
         case round =>
          obtain ⟨kk, j, hkj, hjm, rfl, rfl, HLm, HBl⟩ := hrel
          have hkm : kk < mm + 1 := by omega
          by_cases hlt : j < mm + 1
          ·as_aux_lemma =>
           obtain ⟨A, HA⟩ : ∃ c, Hid (iAt s.tl (rAt s.op j) = c) := ⟨_, (rfl : iAt s.tl (rAt s.op j) = _)⟩
           obtain ⟨B, HB⟩ : ∃ c, Hid (iAt s.tl (rAt s.op kk) = c) := ⟨_, (rfl : iAt s.tl (rAt s.op kk) = _)⟩
           have hoa := (Hon.out j hlt).1
           have hob := (Hon.out kk hkm).1
           have k1 := Hop.out j hlt wr HBl.out
           have k2 := Hop.out kk hkm wr HBl.out
           have HAB1 : Hid (A < B → ∀ t, t < j + 1 → iAt s.tl (rAt s.op j) ≤ iAt s.tl (rAt s.op t)) := (fun h t ht => by
            by_cases e : t = j
            ·subst e; exact Int.le_refl _
            ·have := HLm.out t (by omega)
             rw [HA.out]; rw [HB.out] at this; omega : A < B → ∀ t, t < j + 1 → iAt s.tl (rAt s.op j) ≤ iAt s.tl (rAt s.op t))
           have HAB2 : Hid (¬ A < B → ∀ t, t < j + 1 → iAt s.tl (rAt s.op kk) ≤ iAt s.tl (rAt s.op t)) := (fun h t ht => by
            by_cases e : t = j
            ·subst e; rw [HA.out, HB.out]; omega
            ·exact HLm.out t (by omega) : ¬ A < B → ∀ t, t < j + 1 → iAt s.tl (rAt s.op kk) ≤ iAt s.tl (rAt s.op t))
           obtain ⟨xa, Hxa⟩ : ∃ x, Hid (rAt s.op j = x) := ⟨_, (rfl : rAt s.op j = _)⟩
           obtain ⟨xb, Hxb⟩ : ∃ x, Hid (rAt s.op kk = x) := ⟨_, (rfl : rAt s.op kk = _)⟩
           rw [Hxa.out] at k1 hoa HA
           rw [Hxb.out] at k2 hob HB
           have hMl := HM.out.bel HBl.out
           have e1 := iv_at hMl.tm (x := xa) (by rw [Hdl.out]; exact hoa)
           have e2 := iv_at hMl.tm (x := xb) (by rw [Hdl.out]; exact hob)
           rw [HA.out] at e1
           rw [HB.out] at e2
           have HS26 : wr.drew.cell? ⟨ga, j, none⟩ = some (.int .i64 (xa : Int)) ∧ wr.drew.cell? ⟨ga, kk, none⟩ = some (.int .i64 (xb : Int)) ∧ wr.drew.cell? ⟨Bt, xa, none⟩ = some (.int .i64 A) ∧ wr.drew.cell? ⟨Bt, xb, none⟩ = some (.int .i64 B) := ⟨k1, k2, e1, e2⟩
           have hjI : (j : Int) < ((mm + 1 : Nat) : Int) := by omega
           have hjI2 : (j : Int) < (mm : Int) + 1 := by omega
           have hkI : (kk : Int) < ((mm + 1 : Nat) : Int) := by omega
           have hkI2 : (kk : Int) < (mm : Int) + 1 := by omega
           have haI : (xa : Int) < (n1 : Int) := by omega
           have hbI : (xb : Int) < (n1 : Int) := by omega
           clear hMl e1 e2 k1 k2
           by_cases h1 : A < B
           ·have hd : decide (A < B) = true := by simp [h1]
            have HL2 := Hid_mk (HAB1.out h1)
            clear h1
            go_upto_region 26 with fail
            refine wp_region_noPanic ?_
            refine wp_region_held_drew (S := fun w' => w'.cell? ⟨ga, j, none⟩ = some (.int .i64 (xa : Int)) ∧ w'.cell? ⟨ga, kk, none⟩ = some (.int .i64 (xb : Int)) ∧ w'.cell? ⟨Bt, xa, none⟩ = some (.int .i64 A) ∧ w'.cell? ⟨Bt, xb, none⟩ = some (.int .i64 B)) (by kernel_rfl) HS26 (fun hHeld => ?_)
            clear HS26
            have hb0 : Bel wr wr.drew := (Bel.refl _).drew
            generalize wr.drew = Y at hHeld hb0 ⊢
            refine tk 0 hHeld ?_; refine tk 1 hHeld ?_; refine tk 2 hHeld ?_; refine tk 3 hHeld ?_; refine tk 4 hHeld ?_; refine tk 5 hHeld ?_; refine tk 6 hHeld ?_; refine tk 7 hHeld ?_; refine tk 8 hHeld ?_; refine tk 9 hHeld ?_; refine tk 10 hHeld ?_; refine tk 11 hHeld ?_; refine tk 12 hHeld ?_; refine tk 13 hHeld ?_; refine tk 14 hHeld ?_
            refine wpAnyH_done (by kernel_rfl) ?_ _
            refine NoPanic.normal ?_
            clear hHeld
            have HBn : Hid (Bel wo Y) := bel_step HBl.out hb0
            go_wp2
            go_roundw
            case rel => exact ⟨j, j + 1, by omega, by omega, rfl, by go_num, HL2, HBn⟩
            case measure => simp [intOf]; omega
           ·have hd : decide (A < B) = false := by simp [h1]
            have HL2 := Hid_mk (HAB2.out h1)
            clear h1
            go_upto_region 26 with fail
            refine wp_region_noPanic ?_
            refine wp_region_held_drew (S := fun w' => w'.cell? ⟨ga, j, none⟩ = some (.int .i64 (xa : Int)) ∧ w'.cell? ⟨ga, kk, none⟩ = some (.int .i64 (xb : Int)) ∧ w'.cell? ⟨Bt, xa, none⟩ = some (.int .i64 A) ∧ w'.cell? ⟨Bt, xb, none⟩ = some (.int .i64 B)) (by kernel_rfl) HS26 (fun hHeld => ?_)
            clear HS26
            have hb0 : Bel wr wr.drew := (Bel.refl _).drew
            generalize wr.drew = Y at hHeld hb0 ⊢
            refine tk 0 hHeld ?_; refine tk 1 hHeld ?_; refine tk 2 hHeld ?_; refine tk 3 hHeld ?_; refine tk 4 hHeld ?_; refine tk 5 hHeld ?_; refine tk 6 hHeld ?_; refine tk 7 hHeld ?_; refine tk 8 hHeld ?_; refine tk 9 hHeld ?_; refine tk 10 hHeld ?_; refine tk 11 hHeld ?_; refine tk 12 hHeld ?_; refine tk 13 hHeld ?_; refine tk 14 hHeld ?_
            refine wpAnyH_done (by kernel_rfl) ?_ _
            refine NoPanic.normal ?_
            clear hHeld
            have HBn : Hid (Bel wo Y) := bel_step HBl.out hb0
            go_wp2
            go_roundw
            case rel => exact ⟨kk, j + 1, by omega, by omega, rfl, by go_num, HL2, HBn⟩
            case measure => simp [intOf]; omega
          ·as_aux_lemma =>
           have Hje : Hid (j = mm + 1) := (by omega : j = mm + 1)
           have hjd : ¬ (j : Int) < (mm : Int) + 1 := by omega
           have hjd2 : decide ((j : Int) < (mm : Int) + 1) = false := by simp; omega
           have hjd3 : decide (j < mm + 1) = false := by simp; omega
           obtain ⟨x, Hx⟩ : ∃ x, Hid (rAt s.op kk = x) := ⟨_, (rfl : rAt s.op kk = _)⟩
           obtain ⟨z, Hz⟩ : ∃ z, Hid (rAt s.op mm = z) := ⟨_, (rfl : rAt s.op mm = _)⟩
           have hxn := (Hon.out kk hkm).1
           have HxD : Hid (x ∉ D) := (by rw [← Hx.out]; exact (Hon.out kk hkm).2 : x ∉ D)
           rw [Hx.out] at hxn
           have k1 := Hop.out kk hkm wr HBl.out
           have k2 := Hop.out mm (by omega) wr HBl.out
           rw [Hx.out] at k1
           rw [Hz.out] at k2
           have hMl := HM.out.bel HBl.out
           have k3 := World.ownsRow.frozenAt hMl.op kk
           have k4 := (own_cap hMl.op)
           have hcap : mm + 1 ≤ vc := k4.1
           have hgl : ga < wr.heap.size := k4.2.2.2
           have hcm : vc ≤ 9223372036854775807 := by have := k4.2.1; unfold maxLen at this; omega
           have hM1 := hMl.pop HMP.out (k := kk) hkm z (by
            have h : s.op.length = mm + 1 := HM.out.ol_
            rw [show mm + 1 - 1 = mm from rfl, List.getElem?_eq_getElem (by omega), ← Hz.out, rAt_eq (by omega)])
           have HPm : Hid ((x :: popL s.op kk).Perm s.op) := (by
            have h := popL_perm (l := s.op) (k := kk) (by rw [HM.out.ol_]; exact hkm)
            rw [← rAt_eq (by rw [HM.out.ol_]; exact hkm), Hx.out] at h
            exact h : (x :: popL s.op kk).Perm s.op)
           obtain ⟨W1, HW1⟩ : ∃ X, Hid (X = wr.setCell ⟨ga, kk, none⟩ (.int .i64 (z : Int))) := ⟨_, (rfl : wr.setCell ⟨ga, kk, none⟩ (.int .i64 (z : Int)) = _)⟩
           rw [← HW1.out] at hM1
           have d0 : W1.cell? ⟨Bt + 1, x, none⟩ = some (.bool (decide (x ∈ D))) := dn_atR hM1.dn hxn
           rw [show decide (x ∈ D) = false by simpa using HxD.out] at d0
           have d1' := hM1.dn.free x
           have d2' := hM1.dn.lt
           have hM2 := hM1.mark HMP.out x hxn
           obtain ⟨W2, HW2⟩ : ∃ X, Hid (X = W1.setCell ⟨Bt + 1, x, none⟩ (.bool true)) := ⟨_, (rfl : W1.setCell ⟨Bt + 1, x, none⟩ (.bool true) = _)⟩
           rw [← HW2.out] at hM2
           have HM2 : Hid (RtW (Bt + 1 + 1) s0 Bt (nw + 1) (Bt + 1) wA n1 n0 (x :: D) ⟨s.tl, popL s.op kk⟩ ol (some ⟨ga, 0, none⟩) mm vc W2) := hM2
           obtain ⟨q, hq, hqe⟩ := HPl.out x hxn
           have hxg : x < g.roads.length := by rw [H1.out]; exact hxn
           have HMin : Hid (∀ y ∈ s.op, iAt s.tl x ≤ iAt s.tl y) := (fun y hy => by
            obtain ⟨t, ht, rfl⟩ := List.getElem_of_mem hy
            have h := HLm.out t (by rw [HM.out.ol_] at ht; rw [Hje.out]; exact ht)
            rw [Hx.out, rAt_eq ht] at h
            exact h : ∀ y ∈ s.op, iAt s.tl x ≤ iAt s.tl y)
           have HNx : Hid (RJ (mkS n1 false) g (p : Int) (x :: D) (rS (mkS n1 false) g x (iAt s.tl x) (x :: D) ⟨s.tl, popL s.op kk⟩ (bgF g.roads n1 true q) (bgF g.roads n1 true q).length)) := HJ.out.next HP.out H1.out HPm.out HMin.out hqe
           have hxt : 0 < iAt s.tl x ∧ iAt s.tl x ≤ 9000000000 := by
            have h1 := ((HJ.out.opn x).1 (HPm.out.mem_iff.1 (List.mem_cons.2 (.inl rfl)))).2.2
            have h2 := HJ.out.cb x hxn
            have h3 := HJ.out.dl'
            have h4 : (mkS n1 false).n1 = n1 := rfl
            rw [h4] at h3
            omega
           have HMI : Hid (∀ k, k ≤ (bgF g.roads n1 true q).length → RI (mkS n1 false) g x (iAt s.tl x) (x :: D) ⟨s.tl, popL s.op kk⟩ (bgF g.roads n1 true q) k (rS (mkS n1 false) g x (iAt s.tl x) (x :: D) ⟨s.tl, popL s.op kk⟩ (bgF g.roads n1 true q) k)) := (by
            have hsub : ∀ y, y ∈ popL s.op kk → y ∈ s.op := fun y hy => HPm.out.mem_iff.1 (List.mem_cons.2 (.inr hy))
            exact RI.all HP.out H1.out (bgF_nodup _ _ _ _) (fun y hy => bgF_mem hy) (by omega) (fun y hy => ((HJ.out.opn y).1 (hsub y hy)).2.2) HJ.out.len (List.nodup_cons.1 (HPm.out.nodup_iff.2 HJ.out.und)).2 : ∀ k, k ≤ (bgF g.roads n1 true q).length → RI (mkS n1 false) g x (iAt s.tl x) (x :: D) ⟨s.tl, popL s.op kk⟩ (bgF g.roads n1 true q) k _)
           have hrm : (bgF g.roads n1 true q).length ≤ n1 := bgF_len _ _ _ _
           have HRn : Hid (∀ y ∈ bgF g.roads n1 true q, y < n1) := fun y hy => bgF_mem hy
           obtain ⟨ra, rc, hrw⟩ := HTr.out q hq
           obtain ⟨zz, Hzz⟩ : ∃ c, Hid (iAt s.tl x = c) := ⟨_, (rfl : iAt s.tl x = _)⟩
           obtain ⟨row, Hrow⟩ : ∃ l, Hid (bgF g.roads n1 true q = l) := ⟨_, (rfl : bgF g.roads n1 true q = _)⟩
           rw [Hzz.out] at hxt HMI HNx
           rw [Hrow.out] at HMI hrm HNx HRn hrw
           obtain ⟨rm, Hrm⟩ : ∃ n, Hid (row.length = n) := ⟨_, (rfl : row.length = _)⟩
           rw [Hrm.out] at hrw hrm HMI HNx
           have Hrw : Hid (∀ w', Frx (fun y => y ≠ Bt ∧ y ≠ nw + 1 ∧ y ≠ Bt + 1 ∧ (y < Bt + 1 + 1 ∨ s0 ≤ y)) wA w' → w'.cell? ⟨BE, q, none⟩ = some (.slice ra rm rc) ∧ w'.ownsRow lo2 2 1 (.slice ra rm rc) rm (intsN row) ∧ BE < w'.heap.size) := hrw
           have Hold : Hid (∀ y ∈ x :: D, iAt (rS (mkS n1 false) g x zz (x :: D) ⟨s.tl, popL s.op kk⟩ row rm).tl y = iAt s.tl y) := (fun y hy => (HMI.out rm (by omega)).old y hy : ∀ y ∈ x :: D, iAt (rS (mkS n1 false) g x zz (x :: D) ⟨s.tl, popL s.op kk⟩ row rm).tl y = iAt s.tl y)
           have HROn : Hid (RO n0 g p (x :: D) (rS (mkS n1 false) g x zz (x :: D) ⟨s.tl, popL s.op kk⟩ row rm).tl (if iAt ol q < 0 ∨ zz < iAt ol q then ol.set q zz else ol)) := HRO.out.next hqe hq Hzz.out hxt.1 Hold.out
           obtain ⟨hB2, hXG2⟩ := HGr.out W2 HM2.out.fr
           obtain ⟨b, off, f, ea, hb, hx⟩ := HT1.out.out hxg
           have Hea : Hid (a1 = some ⟨b, off, none⟩) := ea
           obtain ⟨_, _, _, _, _, _, _, _, y1, _⟩ := hx x hxg
           rw [← rdAt_eq hxg, hqe] at y1
           have y1' := bel_cellM hB2 hb y1
           have yb' := bel_lt hB2 hb
           have e1' : W2.cell? ⟨nw, 1, none⟩ = some (.slice (some ⟨b, off, none⟩) n1 c1) := by rw [← ea]; exact hXG2.cell 1 (by simp)
           have e2' := hXG2.lt
           have hkI : (kk : Int) < (mm : Int) + 1 := by omega
           have hmI : (mm : Int) < (mm : Int) + 1 := by omega
           have hxI : (x : Int) < (n1 : Int) := by omega
           have hqI : (q : Int) < (n0 : Int) := by omega
           have hcapI : (mm : Int) ≤ (vc : Int) := by omega
           have hw8 : IntKind.i64.wrap ((mm : Int) + 1 - 1) = (mm : Int) := by rw [IntKind.wrap_i64]; omega
           have hw9 : IntKind.i64.wrap (mm : Int) = (mm : Int) := by rw [IntKind.wrap_i64]; omega
           have Hnx : Hid (LN = n1 - D.length ∧ x ∉ D ∧ x < n1) := ⟨HNN.out, HxD.out, hxn⟩
           have Hdl2 : Hid ((x :: D).length ≤ n1) := HNx.out.dl'
           clear hM1 hM2 hMl k4 hx hrw hB2 hXG2 HM Hop Hon hlt hjm hkj ea y1 hb
           go_upto_region 30 with fail
           rw [← HW1.out]
           clear k1 k2 k3
           go_upto_region 32 with fail
           rw [← HW2.out]
           clear d0 d1' d2'
           have T2 := iv_at HM2.out.tm (x := x) (by rw [Hdl.out]; exact hxn)
           rw [Hzz.out] at T2
           have O2 := ov_at HM2.out.ou HRO.out.len hq
           obtain ⟨oq, Hoq⟩ : ∃ t, Hid (iAt ol q = t) := ⟨_, (rfl : iAt ol q = _)⟩
           rw [Hoq.out] at O2 HROn
           have HSt : Hid (∀ w', Bel W2 w' → w'.cell? ⟨nw + 1, q, none⟩ = some (.int .i64 oq) ∧ w'.cell? ⟨Bt, x, none⟩ = some (.int .i64 zz)) := (fun w' h => ⟨bel_cellM h ((World.ownsRow.lt HM2.out.ou (nw + 1) rfl).2) O2, bel_cellM h HM2.out.tm.lt T2⟩ : ∀ w', Bel W2 w' → w'.cell? ⟨nw + 1, q, none⟩ = some (.int .i64 oq) ∧ w'.cell? ⟨Bt, x, none⟩ = some (.int .i64 zz))
           obtain ⟨dc, Hdc2⟩ : ∃ b, Hid (decide (oq < 0 ∨ zz < oq) = b) := ⟨_, (rfl : decide (oq < 0 ∨ zz < oq) = _)⟩
           have HROd : Hid (RO n0 g p (x :: D) (rS (mkS n1 false) g x zz (x :: D) ⟨s.tl, popL s.op kk⟩ row rm).tl (if dc = true then ol.set q zz else ol)) := (by
            have h := HROn.out
            have e : (dc = true) = (oq < 0 ∨ zz < oq) := by rw [← Hdc2.out]; simp
            simp only [e]
            exact h : RO n0 g p (x :: D) (rS (mkS n1 false) g x zz (x :: D) ⟨s.tl, popL s.op kk⟩ row rm).tl (if dc = true then ol.set q zz else ol))
           clear T2 O2 HROn HRO Hold
           go_upto_region 33 with fail
           clear y1' yb' e1' e2' HW1 HW2 HBl hjd hjd2 hjd3 hkI hmI hcapI hw8 hw9 HLm HMin
           go_cut [163] (fun v wx => v = .bool dc ∧ Hid (Bel W2 wx))
           case first =>
            by_cases h1 : oq < 0
            ·as_aux_lemma =>
             have HD : Hid (dc = true) := (by rw [← Hdc2.out]; simp [h1] : dc = true)
             have d1 : decide (oq < 0) = true := by simp [h1]
             refine wp_region_noPanic ?_
             refine wp_region_held_drew (S := fun w' => w'.cell? ⟨nw + 1, q, none⟩ = some (.int .i64 oq) ∧ w'.cell? ⟨Bt, x, none⟩ = some (.int .i64 zz)) (by kernel_rfl) (HSt.out _ (Bel.refl _).drew) (fun hHeld => ?_)
             have hY0 : Bel W2 W2.drew := (Bel.refl _).drew
             generalize W2.drew = Y at hHeld hY0 ⊢
             refine tk 0 hHeld ?_; refine tk 1 hHeld ?_; refine tk 2 hHeld ?_; refine tk 3 hHeld ?_; refine tk 4 hHeld ?_; refine tk 5 hHeld ?_
             refine sk 6 hHeld ?_; refine sk 7 hHeld ?_; refine sk 8 hHeld ?_; refine sk 9 hHeld ?_; refine sk 10 hHeld ?_; refine sk 11 hHeld ?_; refine sk 12 hHeld ?_; refine sk 13 hHeld ?_; refine sk 14 hHeld ?_; refine tk 15 hHeld ?_
             refine wpAnyH_done (by kernel_rfl) ?_ _
             refine NoPanic.normal ?_
             go_wp2_with fail
             go_meet
             case rel => exact ⟨by rw [HD.out], hY0⟩
            ·as_aux_lemma =>
             have d1 : decide (oq < 0) = false := by simp [h1]
             have HD : Hid (dc = decide (zz < oq)) := (by rw [← Hdc2.out]; simp [h1] : dc = decide (zz < oq))
             refine wp_region_noPanic ?_
             refine wp_region_held_drew (S := fun w' => w'.cell? ⟨nw + 1, q, none⟩ = some (.int .i64 oq) ∧ w'.cell? ⟨Bt, x, none⟩ = some (.int .i64 zz)) (by kernel_rfl) (HSt.out _ (Bel.refl _).drew) (fun hHeld => ?_)
             have hY0 : Bel W2 W2.drew := (Bel.refl _).drew
             generalize W2.drew = Y at hHeld hY0 ⊢
             refine tk 0 hHeld ?_; refine tk 1 hHeld ?_; refine tk 2 hHeld ?_; refine tk 3 hHeld ?_; refine tk 4 hHeld ?_; refine tk 5 hHeld ?_; refine tk 6 hHeld ?_; refine tk 7 hHeld ?_; refine tk 8 hHeld ?_; refine tk 9 hHeld ?_; refine tk 10 hHeld ?_; refine tk 11 hHeld ?_; refine tk 12 hHeld ?_; refine tk 13 hHeld ?_; refine tk 14 hHeld ?_; refine tk 15 hHeld ?_
             refine wpAnyH_done (by kernel_rfl) ?_ _
             refine NoPanic.normal ?_
             go_wp2_with fail
             go_meet
             case rel => exact ⟨by rw [HD.out], hY0⟩
           case rest =>
            obtain ⟨rfl, HBc⟩ := hcut
            obtain ⟨W3', rfl⟩ : ∃ V, V = wc := ⟨_, rfl⟩
            have HM3 : Hid (RtW (Bt + 1 + 1) s0 Bt (nw + 1) (Bt + 1) wA n1 n0 (x :: D) ⟨s.tl, popL s.op kk⟩ ol (some ⟨ga, 0, none⟩) mm vc W3') := HM2.out.bel HBc.out
            obtain ⟨T3, O3⟩ := (HSt.out W3' HBc.out).symm
            clear HM2 HSt HBc
            obtain ⟨ol', Hol'⟩ : ∃ l, Hid ((if dc = true then ol.set q zz else ol) = l) := ⟨_, (rfl : (if dc = true then ol.set q zz else ol) = _)⟩
            rw [Hol'.out] at HROd
            go_upto_if 163 with fail
            go_cut [] (fun wx => Hid (RtW (Bt + 1 + 1) s0 Bt (nw + 1) (Bt + 1) wA n1 n0 (x :: D) ⟨s.tl, popL s.op kk⟩ ol' (some ⟨ga, 0, none⟩) mm vc wx))
            case first =>
             as_aux_lemma =>
             have f1 := World.ownsRow.frozenAt HM3.out.ou q
             have f2 := (World.ownsRow.lt HM3.out.ou (nw + 1) rfl).2
             have f3 := HM3.out.tm.lt
             cases dc
             ·have HM4 : Hid (RtW (Bt + 1 + 1) s0 Bt (nw + 1) (Bt + 1) wA n1 n0 (x :: D) ⟨s.tl, popL s.op kk⟩ ol' (some ⟨ga, 0, none⟩) mm vc W3') := (by rw [← Hol'.out]; exact HM3.out : RtW (Bt + 1 + 1) s0 Bt (nw + 1) (Bt + 1) wA n1 n0 (x :: D) ⟨s.tl, popL s.op kk⟩ ol' (some ⟨ga, 0, none⟩) mm vc W3')
              go_wp2
              go_meet
              case rel => exact HM4
             ·have HM4 : Hid (RtW (Bt + 1 + 1) s0 Bt (nw + 1) (Bt + 1) wA n1 n0 (x :: D) ⟨s.tl, popL s.op kk⟩ ol' (some ⟨ga, 0, none⟩) mm vc (W3'.setCell ⟨nw + 1, q, none⟩ (.int .i64 zz))) := (by rw [← Hol'.out]; exact HM3.out.outp HMP.out q zz : RtW (Bt + 1 + 1) s0 Bt (nw + 1) (Bt + 1) wA n1 n0 (x :: D) ⟨s.tl, popL s.op kk⟩ ol' (some ⟨ga, 0, none⟩) mm vc (W3'.setCell ⟨nw + 1, q, none⟩ (.int .i64 zz)))
              go_wp2
              go_meet
              case rel => exact HM4
            case rest =>
             have HM5 := hcut
             clear HM3 T3 O3 hcut
             obtain ⟨W5, rfl⟩ : ∃ V, V = wc := ⟨_, rfl⟩
             obtain ⟨e3', _, e4'⟩ := Hrw.out W5 HM5.out.fr
             go_upto_region 36 with fail
             clear e3' e4'
             go_wp2_with fail
             go_loopw [10, 19, 20, 21] (fun vo iv _ _ wr => ∃ (j : Nat) (va : Option Addr) (m vc : Nat), j ≤ rm ∧ vo = .slice va m vc ∧ iv = .int .i64 j ∧ Hid (RtW (Bt + 1 + 1) s0 Bt (nw + 1) (Bt + 1) wA n1 n0 (x :: D) (rS (mkS n1 false) g x zz (x :: D) ⟨s.tl, popL s.op kk⟩ row j) ol' va m vc wr)) (fun _ iv _ _ _ => rm - (intOf iv).toNat)
             case atStart => exact ⟨0, _, _, _, Nat.zero_le _, rfl, rfl, HM5⟩
             case round =>
              clear HM5
              obtain ⟨j, va, m, vc, hj, rfl, rfl, HMj⟩ := hrel
              by_cases hlt : j < rm
              ·as_aux_lemma =>
               have hjr : j < row.length := by rw [Hrm.out]; exact hlt
               obtain ⟨hBj, hXGj⟩ := HGr.out wr HMj.out.fr
               obtain ⟨_, r2, _⟩ := Hrw.out wr HMj.out.fr
               obtain ⟨gr, gcc, ev, _, hgr⟩ := own_in r2 (by omega)
               simp only [Value.slice.injEq, true_and] at ev
               obtain ⟨rfl, hev⟩ := ev
               clear hev
               have hgrl := (World.ownsRow.lt r2 gr rfl).1
               have c1' : wr.cell? ⟨gr, j, none⟩ = some (.int .i64 (row[j] : Int)) := op_atR r2 hjr Hrm.out
               have hyn : row[j] < n1 := HRn.out _ (List.getElem_mem hjr)
               have HSc : Hid (rS (mkS n1 false) g x zz (x :: D) ⟨s.tl, popL s.op kk⟩ row (j + 1) = rRel (mkS n1 false) g x zz (x :: D) (rS (mkS n1 false) g x zz (x :: D) ⟨s.tl, popL s.op kk⟩ row j) row[j]) := rS_succ _ _ _ _ _ _ _ hjr
               obtain ⟨y, Hy⟩ : ∃ y, Hid (row[j] = y) := ⟨_, (rfl : row[j] = _)⟩
               rw [Hy.out] at c1' hyn HSc
               have hmi := HMI.out j hj
               obtain ⟨cur, Hcur⟩ : ∃ c, Hid (rS (mkS n1 false) g x zz (x :: D) ⟨s.tl, popL s.op kk⟩ row j = c) := ⟨_, (rfl : rS (mkS n1 false) g x zz (x :: D) ⟨s.tl, popL s.op kk⟩ row j = _)⟩
               rw [Hcur.out] at hmi HMj HSc
               have hcl : cur.tl.length = n1 := hmi.len
               have HcX : Hid (iAt cur.tl x = zz) := (by have h := hmi.old x (List.mem_cons.2 (.inl rfl)); simp only at h; rw [h, Hzz.out] : iAt cur.tl x = zz)
               have hom2 : m ≤ 8000 := by
                rw [← HMj.out.ol_]
                refine Nat.le_trans (nodup_le n1 _ hmi.nd (fun o ho => ?_)) m1
                rcases (hmi.op o).1 ho with h | h
                ·exact ((HJ.out.opn o).1 (HPm.out.mem_iff.1 (List.mem_cons.2 (.inr h)))).1
                ·exact HRn.out o (List.mem_of_mem_take h.1)
               have hyg : y < g.roads.length := by rw [H1.out]; exact hyn
               obtain ⟨b2', off2, f2, ea2, hb2, hx2⟩ := HT1.out.out hyg
               rw [Hea.out] at ea2
               injection ea2 with ea2
               injection ea2 with eb eo
               subst eb eo
               have hbn : b < nw := by rw [← Hnw.out]; exact hb2
               obtain ⟨_, _, _, _, _, _, _, _, _, _, y3, _⟩ := hx2 y hyg
               rw [← rdAt_eq hyg] at y3
               have hro := (roadB_out (HP.out.2.2.1 y hyg)).2.2.2.1
               rw [← rdAt_eq hyg] at hro
               obtain ⟨ti, Hti⟩ : ∃ t, Hid ((rdAt g y).time = t) := ⟨_, (rfl : (rdAt g y).time = _)⟩
               rw [Hti.out] at y3 hro
               have htb := tnB_bd g x y
               have HT3 : Hid (∀ w', Bel w w' → w'.cell? ⟨b, off + y * 6 + 3, none⟩ = some (.int .i64 ti)) := fun w' h => bel_cellM h hb2 y3
               obtain ⟨tu, Htu⟩ : ∃ t, Hid (tnB g x y = t) := ⟨_, (rfl : tnB g x y = _)⟩
               have HcT : Hid (∀ w', Bel w w' → Calls Tryz.prog 37 #[gphV a0 n0 c0 a1 n1 c1 a2 n2 c2, .int .i64 (x : Int), .int .i64 (y : Int)] w' fun e w'' => e = .returned (.int .i64 tu) ∧ Bel w' w'') := (fun w' h => by rw [← Htu.out]; exact specTurn_any a0 n0 c0 a1 n1 c1 a2 n2 c2 g b0 b1 b2 x y w' (HT0.out.bel spotE h) (HT1.out.bel roadE h) (HT2.out.bel banE h) H0.out H1.out H2.out HP.out hxn hyn : ∀ w', Bel w w' → Calls Tryz.prog 37 #[gphV a0 n0 c0 a1 n1 c1 a2 n2 c2, .int .i64 (x : Int), .int .i64 (y : Int)] w' fun e w'' => e = .returned (.int .i64 tu) ∧ Bel w' w'')
               rw [Htu.out] at htb
               have HG39 : Hid (∀ w', Bel wr w' → w'.cell? ⟨nw, 0, none⟩ = some (.slice a0 n0 c0) ∧ w'.cell? ⟨nw, 1, none⟩ = some (.slice a1 n1 c1) ∧ w'.cell? ⟨nw, 2, none⟩ = some (.slice a2 n2 c2) ∧ w'.cell? ⟨gr, j, none⟩ = some (.int .i64 (y : Int))) := fun w' h => ⟨(hXGj.bel h).cell 0 (by simp), (hXGj.bel h).cell 1 (by simp), (hXGj.bel h).cell 2 (by simp), bel_cellM h hgr c1'⟩
               have HBj : Hid (Bel w wr) := hBj
               have hjI : (j : Int) < (rm : Int) := by omega
               have hyI : (y : Int) < (n1 : Int) := by omega
               have Hcl : Hid (cur.tl.length = n1) := hcl
               have hcb : -1 ≤ iAt cur.tl y ∧ iAt cur.tl y ≤ 9000000000 + 1000020 := by
                have h1 := HJ.out.cb y hyn
                have h3 : D.length ≤ n1 := HJ.out.dl'
                by_cases hm : y ∈ row.take j
                ·rcases hmi.chg y hm with e | ⟨_, _, e, _⟩
                 ·rw [e]; simp only; omega
                 ·have := stp_bd (S := mkS n1 false) (r := x) HP.out H1.out hyn
                  rw [e]; omega
                ·rw [hmi.own y hm]; simp only; omega
               clear hmi r2 hx2 y3 hBj hXGj hcl
               go_upto_region 39 with fail
               refine wp_region_noPanic ?_
               refine wp_region_held_drew (S := fun w' => w'.cell? ⟨nw, 0, none⟩ = some (.slice a0 n0 c0) ∧ w'.cell? ⟨nw, 1, none⟩ = some (.slice a1 n1 c1) ∧ w'.cell? ⟨nw, 2, none⟩ = some (.slice a2 n2 c2) ∧ w'.cell? ⟨gr, j, none⟩ = some (.int .i64 (y : Int))) (by kernel_rfl) (HG39.out _ (Bel.refl _).drew) (fun hHeld => ?_)
               have hY0 : Bel wr wr.drew := (Bel.refl _).drew
               generalize wr.drew = Y at hHeld hY0 ⊢
               refine tk 0 hHeld ?_; refine tk 1 hHeld ?_; refine tk 2 hHeld ?_; refine tk 3 hHeld ?_; refine tk 4 hHeld ?_; refine tk 5 hHeld ?_
               refine rd1 6 (fun K hK => ?_)
               go_simp
               refine (HcT.out _ (bel_step HBj.out hY0)).mono ?_
               rintro e w6 ⟨rfl, hb6⟩
               have h6 := bel_step hY0 hb6
               go_wp2_with fail
               refine hK.out _ _ (HG39.out _ h6) ?_; clear hK K hHeld; intro hHeld
               try simp only [Act.put, List.setIfInBounds_toArray, List.set_cons_zero, List.set_cons_succ]
               refine tk 7 hHeld ?_
               refine wpAnyH_done (by kernel_rfl) ?_ _
               refine NoPanic.normal ?_
               obtain ⟨_, g61, _, g63⟩ := hHeld
               have HM6 : Hid (RtW (Bt + 1 + 1) s0 Bt (nw + 1) (Bt + 1) wA n1 n0 (x :: D) cur ol' va m vc w6) := HMj.out.bel h6
               have HB6 : Hid (Bel w w6) := bel_step HBj.out h6
               have gl6 : gr < w6.heap.size := bel_lt h6 hgr
               have d0 : w6.cell? ⟨Bt + 1, y, none⟩ = some (.bool (decide (y ∈ x :: D))) := dn_atR HM6.out.dn hyn
               have dl := HM6.out.dn.lt
               have tm6 := iv_at HM6.out.tm (x := y) (by rw [Hcl.out]; exact hyn)
               have tx6 := iv_at HM6.out.tm (x := x) (by rw [Hcl.out]; exact hxn)
               rw [HcX.out] at tx6
               have tl6 := HM6.out.tm.lt
               obtain ⟨cy, Hcy⟩ : ∃ t, Hid (iAt cur.tl y = t) := ⟨_, (rfl : iAt cur.tl y = _)⟩
               rw [Hcy.out] at tm6 hcb
               clear HMj h6 hb6 hY0 c1' HG39 HcT
               by_cases hyD : y ∈ x :: D
               ·as_aux_lemma =>
                have HE : Hid (RtW (Bt + 1 + 1) s0 Bt (nw + 1) (Bt + 1) wA n1 n0 (x :: D) (rS (mkS n1 false) g x zz (x :: D) ⟨s.tl, popL s.op kk⟩ row (j + 1)) ol' va m vc w6) := (by rw [HSc.out, rRel_done hyD]; exact HM6.out : RtW (Bt + 1 + 1) s0 Bt (nw + 1) (Bt + 1) wA n1 n0 (x :: D) (rS (mkS n1 false) g x zz (x :: D) ⟨s.tl, popL s.op kk⟩ row (j + 1)) ol' va m vc w6)
                rw [show decide (y ∈ x :: D) = true from decide_eq_true hyD] at d0
                go_wp2
                go_roundw
                case rel => exact ⟨j + 1, _, _, _, by omega, rfl, by go_num, HE⟩
                case measure => simp [intOf]; omega
               rw [show decide (y ∈ x :: D) = false from decide_eq_false hyD] at d0
               by_cases hbn2 : bP (inL g.bans (x : Int) (y : Int)) = true
               ·as_aux_lemma =>
                have HE : Hid (RtW (Bt + 1 + 1) s0 Bt (nw + 1) (Bt + 1) wA n1 n0 (x :: D) (rS (mkS n1 false) g x zz (x :: D) ⟨s.tl, popL s.op kk⟩ row (j + 1)) ol' va m vc w6) := (by rw [HSc.out, rRel_ban (show bnd (mkS n1 false) g x y = true from hbn2)]; exact HM6.out : RtW (Bt + 1 + 1) s0 Bt (nw + 1) (Bt + 1) wA n1 n0 (x :: D) (rS (mkS n1 false) g x zz (x :: D) ⟨s.tl, popL s.op kk⟩ row (j + 1)) ol' va m vc w6)
                have hneg : tu = -1 := by rw [← Htu.out]; exact tnB_ban hbn2
                subst hneg
                go_wp2
                go_roundw
                case rel => exact ⟨j + 1, _, _, _, by omega, rfl, by go_num, HE⟩
                case measure => simp [intOf]; omega
               have Hbf : Hid (bnd (mkS n1 false) g x y = false) := (by
                show bP (inL g.bans (x : Int) (y : Int)) = false
                cases h : bP (inL g.bans (x : Int) (y : Int))
                ·rfl
                ·exact absurd h hbn2 : bnd (mkS n1 false) g x y = false)
               have htu : tu = tnC g x y := by rw [← Htu.out]; exact tnB_ok Hbf.out
               have htn := tnC_bd g x y
               have ht0 : 0 ≤ tu := by omega
               have hneg : ¬ tu < 0 := by omega
               have hnegd : decide (tu < 0) = false := by simp; omega
               have Hstp : Hid (zz + stpC false g x y = zz + tu + ti) := (by
                show zz + (tnC g x y + (rdAt g y).time) = zz + tu + ti
                rw [Hti.out, htu]; omega : zz + stpC false g x y = zz + tu + ti)
               have hw1 : IntKind.i64.wrap (zz + tu) = zz + tu := by rw [IntKind.wrap_i64]; omega
               have hw2 : IntKind.i64.wrap (zz + tu + ti) = zz + tu + ti := by rw [IntKind.wrap_i64]; omega
               have HS41 : Hid (w6.drew.cell? ⟨Bt, x, none⟩ = some (.int .i64 zz) ∧ w6.drew.cell? ⟨nw, 1, none⟩ = some (.slice (some ⟨b, off, none⟩) n1 c1) ∧ w6.drew.cell? ⟨gr, j, none⟩ = some (.int .i64 (y : Int)) ∧ w6.drew.cell? ⟨b, off + y * 6 + 3, none⟩ = some (.int .i64 ti)) := ⟨tx6, by rw [← Hea.out]; exact g61, g63, HT3.out _ HB6.out.drew⟩
               clear hbn2 htu htn
               go_upto_region 41 with fail
               refine wp_region_noPanic ?_
               refine wp_region_held_drew (S := fun w' => w'.cell? ⟨Bt, x, none⟩ = some (.int .i64 zz) ∧ w'.cell? ⟨nw, 1, none⟩ = some (.slice (some ⟨b, off, none⟩) n1 c1) ∧ w'.cell? ⟨gr, j, none⟩ = some (.int .i64 (y : Int)) ∧ w'.cell? ⟨b, off + y * 6 + 3, none⟩ = some (.int .i64 ti)) (by kernel_rfl) HS41.out (fun hHeld => ?_)
               have hb7 : Bel w6 w6.drew := (Bel.refl _).drew
               clear HS41 tx6 g61 g63 d0 dl tm6 tl6
               generalize w6.drew = w7 at hHeld hb7 ⊢
               refine tk 0 hHeld ?_; refine tk 1 hHeld ?_; refine tk 2 hHeld ?_; refine tk 3 hHeld ?_; refine tk 4 hHeld ?_; refine tk 5 hHeld ?_; refine tk 6 hHeld ?_; refine tk 7 hHeld ?_; refine tk 8 hHeld ?_; refine tk 9 hHeld ?_; refine tk 10 hHeld ?_; refine tk 11 hHeld ?_; refine tk 12 hHeld ?_; refine tk 13 hHeld ?_; refine tk 14 hHeld ?_; refine tk 15 hHeld ?_; refine tk 16 hHeld ?_
               refine wpAnyH_done (by kernel_rfl) ?_ _
               refine NoPanic.normal ?_
               obtain ⟨_, _, g73, _⟩ := hHeld
               have HM7 : Hid (RtW (Bt + 1 + 1) s0 Bt (nw + 1) (Bt + 1) wA n1 n0 (x :: D) cur ol' va m vc w7) := HM6.out.bel hb7
               have gl7 : gr < w7.heap.size := bel_lt hb7 gl6
               clear HM6 gl6 hb7 HB6
               have tm7 := iv_at HM7.out.tm (x := y) (by rw [Hcl.out]; exact hyn)
               rw [Hcy.out] at tm7
               have tf7 := HM7.out.tm.free y
               have tl7 := HM7.out.tm.lt
               obtain ⟨cc, Hcc⟩ : ∃ t, Hid (zz + tu + ti = t) := ⟨_, (rfl : zz + tu + ti = _)⟩
               rw [Hcc.out] at Hstp hw2 ⊢
               have ngt : gr ≠ Bt := by have := Hlos.out; omega
               by_cases hc0 : cy < 0
               ·as_aux_lemma =>
                have HS8 : Hid (rS (mkS n1 false) g x zz (x :: D) ⟨s.tl, popL s.op kk⟩ row (j + 1) = ⟨cur.tl.set y cc, cur.op ++ [y]⟩) := (by rw [HSc.out]; exact rRel_new hyD Hbf.out (by rw [Hcy.out]; exact hc0) Hstp.out : rS (mkS n1 false) g x zz (x :: D) ⟨s.tl, popL s.op kk⟩ row (j + 1) = ⟨cur.tl.set y cc, cur.op ++ [y]⟩)
                have hc0d : decide (cy < 0) = true := by simp [hc0]
                have hownA : (w7.alloc (.cells #[.int .i64 (y : Int)] 2)).ownsRow (Bt + 1 + 1) 2 1 (.slice va m vc) m (intsN cur.op) := World.ownsRow.alloc HM7.out.op _
                have HN : Hid (∀ j u, [Value.int .i64 (y : Int)][j]? = some u → (w7.alloc (.cells #[.int .i64 (y : Int)] 2)).cell? (Addr.add ⟨w7.heap.size, 0, none⟩ j) = some u) := World.news_of_block (cs := #[.int .i64 (y : Int)]) (heap_alloc_new w7 _)
                have hlos : Bt + 1 + 1 ≤ w7.heap.size := by have := HM7.out.fr.size; have := HMP.out.z; omega
                go_wp2_with (first
                 | (at_builtin; refine wpList_append_lies _ rfl _ _ 46 rfl (Bt + 1 + 1) 2 i0 (.int .i64 0) 1 8 Tryz.underlying46 hi0 hz0 hz1 hz2 rfl (by decide) _ _ _ rfl hownA ⟨w7.heap.size, 0, none⟩ 1 1 [.int .i64 (y : Int)] rfl rfl HN.out (by simp [Value.oneCell']) (by decide) (by unfold maxLen; omega) (by omega) (by simp; omega) (w7.heap.size + 1) (by simp) ?_)
                 | go_in)
                intro g2 cap2 w9 hown2 hgrow hat _
                have hM8 := HM7.out.push HMP.out (bel_alloc (Bel.refl w7) _) hown2 hgrow (by simpa using hat)
                have t8 := iv_at hM8.tm (x := y) (by rw [Hcl.out]; exact hyn)
                have t8f := hM8.tm.free y
                have t8l := hM8.tm.lt
                obtain ⟨_, r8, _⟩ := Hrw.out w9 hM8.fr
                have c8 : w9.cell? ⟨gr, j, none⟩ = some (.int .i64 (row[j] : Int)) := op_atR r8 hjr Hrm.out
                rw [Hy.out] at c8
                have l8 := (World.ownsRow.lt r8 gr rfl).2
                have HM9 : Hid (RtW (Bt + 1 + 1) s0 Bt (nw + 1) (Bt + 1) wA n1 n0 (x :: D) (rS (mkS n1 false) g x zz (x :: D) ⟨s.tl, popL s.op kk⟩ row (j + 1)) ol' (some ⟨g2, 0, none⟩) (m + 1) cap2 (w9.setCell ⟨Bt, y, none⟩ (.int .i64 cc))) := (by
                 rw [HS8.out]
                 exact hM8.time HMP.out y cc (by simp only; rw [Hcl.out]; exact hyn) : RtW (Bt + 1 + 1) s0 Bt (nw + 1) (Bt + 1) wA n1 n0 (x :: D) (rS (mkS n1 false) g x zz (x :: D) ⟨s.tl, popL s.op kk⟩ row (j + 1)) ol' (some ⟨g2, 0, none⟩) (m + 1) cap2 (w9.setCell ⟨Bt, y, none⟩ (.int .i64 cc)))
                clear hown2 hgrow hat hownA hM8 r8 g73 tm7 tf7 tl7
                go_wp2
                go_roundw
                case rel => exact ⟨j + 1, _, _, _, by omega, rfl, by go_num, HM9⟩
                case measure => simp [intOf]; omega
               have hc0d : decide (cy < 0) = false := by simp; omega
               by_cases hc1 : cc < cy
               ·as_aux_lemma =>
                have HS8 : Hid (rS (mkS n1 false) g x zz (x :: D) ⟨s.tl, popL s.op kk⟩ row (j + 1) = ⟨cur.tl.set y cc, cur.op⟩) := (by rw [HSc.out]; exact rRel_less hyD Hbf.out (by rw [Hcy.out]; exact hc0) Hstp.out (by rw [Hcy.out]; exact hc1) : rS (mkS n1 false) g x zz (x :: D) ⟨s.tl, popL s.op kk⟩ row (j + 1) = ⟨cur.tl.set y cc, cur.op⟩)
                have hd1 : decide (cc ≥ cy) = false := by simp; omega
                have hd2 : decide (cy ≤ cc) = false := by simp; omega
                have HM9 : Hid (RtW (Bt + 1 + 1) s0 Bt (nw + 1) (Bt + 1) wA n1 n0 (x :: D) (rS (mkS n1 false) g x zz (x :: D) ⟨s.tl, popL s.op kk⟩ row (j + 1)) ol' va m vc (w7.setCell ⟨Bt, y, none⟩ (.int .i64 cc))) := (by
                 rw [HS8.out]
                 exact HM7.out.time HMP.out y cc (by rw [Hcl.out]; exact hyn) : RtW (Bt + 1 + 1) s0 Bt (nw + 1) (Bt + 1) wA n1 n0 (x :: D) (rS (mkS n1 false) g x zz (x :: D) ⟨s.tl, popL s.op kk⟩ row (j + 1)) ol' va m vc (w7.setCell ⟨Bt, y, none⟩ (.int .i64 cc)))
                go_wp2
                go_roundw
                case rel => exact ⟨j + 1, _, _, _, by omega, rfl, by go_num, HM9⟩
                case measure => simp [intOf]; omega
               ·as_aux_lemma =>
                have HS8 : Hid (rS (mkS n1 false) g x zz (x :: D) ⟨s.tl, popL s.op kk⟩ row (j + 1) = cur) := (by rw [HSc.out]; exact rRel_same hyD Hbf.out (by rw [Hcy.out]; exact hc0) Hstp.out (by rw [Hcy.out]; exact hc1) : rS (mkS n1 false) g x zz (x :: D) ⟨s.tl, popL s.op kk⟩ row (j + 1) = cur)
                have hd1 : decide (cc ≥ cy) = true := by simp; omega
                have hd2 : decide (cy ≤ cc) = true := by simp; omega
                have HM9 : Hid (RtW (Bt + 1 + 1) s0 Bt (nw + 1) (Bt + 1) wA n1 n0 (x :: D) (rS (mkS n1 false) g x zz (x :: D) ⟨s.tl, popL s.op kk⟩ row (j + 1)) ol' va m vc w7) := (by rw [HS8.out]; exact HM7.out : RtW (Bt + 1 + 1) s0 Bt (nw + 1) (Bt + 1) wA n1 n0 (x :: D) (rS (mkS n1 false) g x zz (x :: D) ⟨s.tl, popL s.op kk⟩ row (j + 1)) ol' va m vc w7)
                go_wp2
                go_roundw
                case rel => exact ⟨j + 1, _, _, _, by omega, rfl, by go_num, HM9⟩
                case measure => simp [intOf]; omega
              ·as_aux_lemma =>
               have e : rm = j := by omega
               have hge : ¬ (j : Int) < (rm : Int) := by omega
               have HBN : Hid (RtB (Bt + 1 + 1) s0 Bt (nw + 1) (Bt + 1) wA n1 n0 g p (n1 - (x :: D).length) (.slice va m vc) wr) := ⟨x :: D, _, ol', va, m, vc, rfl, HNx.out, HROd.out, by rw [e]; exact HMj.out, rfl⟩
               have HLt : Hid (n1 - (x :: D).length < LN) := (by rw [Hnx.out.1]; have := Hdl2.out; simp only [List.length_cons] at this ⊢; omega : n1 - (x :: D).length < LN)
               clear HMj e
               go_wp2
               go_roundw
               case rel => exact ⟨_, HBN⟩
               case measure => exact Nat.lt_of_le_of_lt (lstN_le HBN) (by rw [HLN.out]; exact HLt.out)
end Go.Proofs.YtdlgehnoiaoneaaGreatDoor
