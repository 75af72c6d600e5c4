/-
  Within in the model: contract.
-/
import Derived.Test.YtdlgehnoiaoneaaGreatDoorRtS
import Derived.Test.YtdlgehnoiaoneaaGreatDoorTsI
import Derived.Test.YtdlgehnoiaoneaaGreatDoorArrM
import Derived.Test.YtdlgehnoiaoneaaGreatDoorXB
import Derived.Test.YtdlgehnoiaoneaaGreatDoorGA
import Derived.Test.YtdlgehnoiaoneaaGreatDoorGS
namespace Go.Proofs.YtdlgehnoiaoneaaGreatDoor
open Go.RowKit Go.Maps

/-- What is held while the places are gone through. -/
def WsS (lo : Nat) (W : World) (K : Nat → Int) (lim : Int) (k : Nat) (l : List Nat) (g cap n : Nat) (w : World) : Prop :=
 l.length = n ∧ OwnA lo w (.slice (some ⟨g, 0, none⟩) n cap) n (arD K l) ∧ WI K lim k l ∧ n ≤ cap ∧ Bel W w ∧ lo ≤ w.heap.size
theorem WsS.put {lo : Nat} {W wo wE wC : World} {K : Nat → Int} {lim y : Int} {k p gB cap ln : Nat} {l : List Nat} {v : Value} (h : WsS lo W K lim k l gB cap ln wo) (hb : Bel wo wE) (hy : K k = y) (hk : 0 ≤ y ∧ y ≤ lim) (hp : p ≤ ln) (h1 : p = 0 ∨ ∃ z, l[p - 1]? = some z ∧ K z ≤ y) (h2 : ∀ z ∈ l.drop p, y < K z)
  (ho : wC.ownsRow wE.heap.size 49 2 v (0 + p + 1 + (ln - p)) ((([] ++ ((((arD K l).drop 0).take p).flatMap arCs)) ++ [.int .i64 (k : Int), .int .i64 y]) ++ ((((arD K l).drop p).take (ln - p)).flatMap arCs))) (hbC : Bel wE wC) :
  ∃ gN cN, v = .slice (some ⟨gN, 0, none⟩) (ln + 1) cN ∧ Hid (WsS lo W K lim (k + 1) (l.take p ++ k :: l.drop p) gN cN (ln + 1) wC) := by
 obtain ⟨e, hO, hW, hc, hB, hs⟩ := h
 have hq : WI K lim (k + 1) (l.take p ++ k :: l.drop p) := hW.put (by rw [hy]; exact hk) (by omega) (by rw [hy]; exact h1) (by rw [hy]; exact h2)
 have hlen : (l.take p ++ k :: l.drop p).length = ln + 1 := by rw [List.length_append, List.length_cons, List.length_take, List.length_drop]; omega
 have hn : 0 + p + 1 + (ln - p) = ln + 1 := by omega
 have hD : ((([] : List Value) ++ ((((arD K l).drop 0).take p).flatMap arCs)) ++ [.int .i64 (k : Int), .int .i64 y]) ++ ((((arD K l).drop p).take (ln - p)).flatMap arCs) = (arD K (l.take p ++ k :: l.drop p)).flatMap arCs := by
  have e1 : ((arD K l).drop p).take (ln - p) = (arD K l).drop p := List.take_of_length_le (by rw [List.length_drop, arD_len]; omega)
  rw [e1, List.drop_zero, List.nil_append]
  have e2 : arD K (l.take p ++ k :: l.drop p) = (arD K l).take p ++ ⟨(k : Int), K k⟩ :: (arD K l).drop p := by
   unfold arD
   rw [List.map_append, List.map_cons, List.map_take, List.map_drop]
  rw [e2, List.flatMap_append, List.flatMap_cons, hy]
  show _ = _ ++ ([Value.int .i64 (k : Int), Value.int .i64 y] ++ _)
  rw [List.append_assoc]
 rw [hn, hD] at ho
 obtain ⟨gN, cN, rfl, g1, g2⟩ := own_someA (l := arD K (l.take p ++ k :: l.drop p)) ho (by omega)
 have hsz := hb.out.size
 exact ⟨gN, cN, rfl, (⟨hlen, own_lo ho (by omega), hq, g1, bel_step hB (bel_step hb hbC), by have := hbC.out.size; omega⟩ : WsS lo W K lim (k + 1) (l.take p ++ k :: l.drop p) gN cN (ln + 1) wC)⟩
theorem WsS.cells {lo : Nat} {W wo : World} {K : Nat → Int} {lim : Int} {k gB cap ln q z : Nat} {l : List Nat} (h : WsS lo W K lim k l gB cap ln wo) (hq : l[q]? = some z) : gB < wo.heap.size ∧ wo.cell? ⟨gB, q * 2 + 1, none⟩ = some (.int .i64 (K z)) := by
 obtain ⟨e, hO, _⟩ := h
 obtain ⟨hql, hz⟩ := List.getElem?_eq_some_iff.1 hq
 refine ⟨(World.ownsRow.lt hO gB rfl).2, ?_⟩
 have hs := own_src (p := q) (m := 1) hO (by rw [arD_len]; exact e) (fun _ _ h => h) (by omega) (some ⟨gB, q * 2, none⟩) (.inr rfl)
 obtain ⟨_, h0 | ⟨a0, ea, hn⟩⟩ := hs
 ·cases h0
 ·injection ea with ea
  subst ea
  have hd : ((arD K l).drop q).take 1 = [⟨(z : Int), K z⟩] := by
   have hl : q < (arD K l).length := by rw [arD_len]; exact hql
   rw [List.drop_eq_getElem_cons hl]
   show [(arD K l)[q]] = _
   simp only [arD, List.getElem_map, hz]
  have h1 := hn 1 (.int .i64 (K z)) (by rw [hd]; rfl)
  rw [addr_add] at h1
  exact h1

set_option maxRecDepth 100000 in
set_option maxHeartbeats 4000000 in
theorem specWithin_any (v : Value) (g : GraphD) (bs : List Nat) (x lim : Int) (w : World) (hV : GphV w v g bs) (hQ : GphQ g) :
  Calls Tryz.prog 5 #[v, .int .i64 x, .int .i64 lim] w fun e w' => ∃ v' l, e = .returned v' ∧ OwnA w.heap.size w' v' (arD (iAt (rcQ g x)) l).length (arD (iAt (rcQ g x)) l) ∧ WI (iAt (rcQ g x)) lim (rcQ g x).length l ∧ Bel w w' := by
 have hV' := hV
 obtain ⟨a0, c0, a1, c1, a2, c2, b0, b1, b2, _, rfl, t0, t1, t2⟩ := hV
 obtain ⟨i0, hi0, hz0, hz1, hz2⟩ := info_parts infoAr
 obtain ⟨n0, H0⟩ : ∃ n, Hid (g.places.length = n) := ⟨_, (rfl : g.places.length = _)⟩
 obtain ⟨n1, H1⟩ : ∃ n, Hid (g.roads.length = n) := ⟨_, (rfl : g.roads.length = _)⟩
 obtain ⟨n2, H2⟩ : ∃ n, Hid (g.bans.length = n) := ⟨_, (rfl : g.bans.length = _)⟩
 rw [H0.out, H1.out, H2.out] at hV' ⊢
 obtain ⟨W, HW⟩ : ∃ W, Hid (W = (w.alloc (.cells #[.slice a0 n0 c0, .slice a1 n1 c1, .slice a2 n2 c2] 34)).alloc (.cells #[] 49)) := ⟨_, (rfl : (w.alloc (.cells #[.slice a0 n0 c0, .slice a1 n1 c1, .slice a2 n2 c2] 34)).alloc (.cells #[] 49) = _)⟩
 have hBW : Bel w W := by rw [HW.out]; exact bel_alloc (bel_alloc (Bel.refl _) _) _
 have XG : Blk W w.heap.size [.slice a0 n0 c0, .slice a1 n1 c1, .slice a2 n2 c2] := by rw [HW.out]; exact (Blk.new w [.slice a0 n0 c0, .slice a1 n1 c1, .slice a2 n2 c2] _).bel (bel_alloc (Bel.refl _) _)
 have HO0 : Hid (W.ownsRow w.heap.size 49 2 (.slice (some ⟨w.heap.size + 1, 0, none⟩) 0 0) 0 []) := (by
  rw [HW.out]
  have h := World.ownsRow_made (e := 49) (size := 2) (base := w.heap.size) (w.alloc (.cells #[.slice a0 n0 c0, .slice a1 n1 c1, .slice a2 n2 c2] 34)) #[] 0 (by simp) (by unfold maxLen; omega) (by rfl)
  have e : (w.alloc (.cells #[.slice a0 n0 c0, .slice a1 n1 c1, .slice a2 n2 c2] 34)).heap.size = w.heap.size + 1 := by simp
  rw [e] at h
  exact h : W.ownsRow w.heap.size 49 2 (.slice (some ⟨w.heap.size + 1, 0, none⟩) 0 0) 0 [])
 obtain ⟨R, HR⟩ : ∃ R, Hid (rcQ g x = R) := ⟨_, (rfl : rcQ g x = _)⟩
 rw [HR.out]
 have hGr : ∀ r, bP (graphP g) = r → Calls Tryz.prog 16 #[gphV a0 n0 c0 a1 n1 c1 a2 n2 c2] W fun e w2 => e = .returned (.bool r) ∧ Bel W w2 := fun r hr => by
  rw [← hr]; exact specGraphOk_any _ g bs _ (hV'.bel hBW) hQ
 have z0 : W.cell? ⟨w.heap.size, 0, none⟩ = some (.slice a0 n0 c0) := XG.cell 0 (by simp)
 have z1 : W.cell? ⟨w.heap.size, 1, none⟩ = some (.slice a1 n1 c1) := XG.cell 1 (by simp)
 have z2 : W.cell? ⟨w.heap.size, 2, none⟩ = some (.slice a2 n2 c2) := XG.cell 2 (by simp)
 have zl := XG.lt
 have HXG : Hid (Blk W w.heap.size [.slice a0 n0 c0, .slice a1 n1 c1, .slice a2 n2 c2]) := XG
 clear XG
 by_cases hP : graphP g
 rotate_left
 ·have HF : Hid (R = []) := (by rw [← HR.out]; exact rcQ_no (fun h => hP h.1) : R = [])
  have hG := hGr false (bP_false hP)
  clear hGr
  go_enter Tryz.func5, Tryz.ntmps5
  go_wp2_with fail
  rw [← HW.out]
  refine hG.mono ?_
  rintro e w1 ⟨rfl, hb1⟩
  have HE : Hid (OwnA w.heap.size w1 (.slice (some ⟨w.heap.size + 1, 0, none⟩) 0 0) 0 [] ∧ Bel w w1) := ⟨own_bel HO0.out hb1, bel_step hBW hb1⟩
  clear z0 z1 z2 zl hG hb1
  go_wp2
  go_ret
  first | exact ⟨_, rfl, [], HE.out.1, by rw [HF.out]; exact WI.nil _ _, HE.out.2⟩ | exact ⟨_, [], rfl, HE.out.1, by rw [HF.out]; exact WI.nil _ _, HE.out.2⟩
 have HP : Hid (graphP g) := hP
 have hG := hGr true (bP_true hP)
 have m1 : n1 ≤ 8000 := by rw [← H1.out]; exact hP.1.2.1
 have m0 : n0 ≤ 5000 := by rw [← H0.out]; exact hP.1.1
 clear hGr hP
 rcases Bool.eq_false_or_eq_true (inN n0 x) with hx | hx
 rotate_left
 ·have HF : Hid (R = []) := (by rw [← HR.out]; exact rcQ_no (fun h => by have := h.2; rw [H0.out, hx] at this; cases this) : R = [])
  go_enter Tryz.func5, Tryz.ntmps5
  go_wp2_with fail
  rw [← HW.out]
  refine hG.mono ?_
  rintro e w1 ⟨rfl, hb1⟩
  have XG1 := HXG.out.bel hb1
  have y0 : w1.cell? ⟨w.heap.size, 0, none⟩ = some (.slice a0 n0 c0) := XG1.cell 0 (by simp)
  have y1 : w1.cell? ⟨w.heap.size, 1, none⟩ = some (.slice a1 n1 c1) := XG1.cell 1 (by simp)
  have y2 : w1.cell? ⟨w.heap.size, 2, none⟩ = some (.slice a2 n2 c2) := XG1.cell 2 (by simp)
  have yl := XG1.lt
  clear z0 z1 z2 zl hG XG1
  go_wp2_with fail
  refine (l10SpotIs_r x _ _ _ _ _ _ _ _ _ false _ hx).mono ?_
  rintro e w2 ⟨rfl, hb2⟩
  have HE : Hid (OwnA w.heap.size w2 (.slice (some ⟨w.heap.size + 1, 0, none⟩) 0 0) 0 [] ∧ Bel w w2) := ⟨own_bel HO0.out (bel_step hb1 hb2), bel_step hBW (bel_step hb1 hb2)⟩
  clear y0 y1 y2 yl hb1 hb2
  go_wp2
  go_ret
  first | exact ⟨_, rfl, [], HE.out.1, by rw [HF.out]; exact WI.nil _ _, HE.out.2⟩ | exact ⟨_, [], rfl, HE.out.1, by rw [HF.out]; exact WI.nil _ _, HE.out.2⟩
 obtain ⟨sp, hsp, rfl⟩ := inN_nat hx
 have HF : Hid (R = rcL n0 n1 g (lstD n1 false g (sp : Int)) (sp : Int)) := (by rw [← HR.out, rcQ_yes HP.out (by rw [H0.out]; exact hx), H0.out, H1.out] : R = rcL n0 n1 g (lstD n1 false g (sp : Int)) (sp : Int))
 have HT : Hid (SpotL w a0 g.places b0 ∧ RoadL w a1 g.roads b1 ∧ BanL w a2 g.bans b2) := ⟨t0, t1, t2⟩
 have HRl : Hid (R.length = n0) := (by rw [HF.out, rcL_len] : R.length = n0)
 clear t0 t1 t2 hV'
 rw [HRl.out]
 go_enter Tryz.func5, Tryz.ntmps5
 go_wp2_with fail
 rw [← HW.out]
 refine hG.mono ?_
 rintro e w1 ⟨rfl, hb1⟩
 have XG1 := HXG.out.bel hb1
 have y0 : w1.cell? ⟨w.heap.size, 0, none⟩ = some (.slice a0 n0 c0) := XG1.cell 0 (by simp)
 have y1 : w1.cell? ⟨w.heap.size, 1, none⟩ = some (.slice a1 n1 c1) := XG1.cell 1 (by simp)
 have y2 : w1.cell? ⟨w.heap.size, 2, none⟩ = some (.slice a2 n2 c2) := XG1.cell 2 (by simp)
 have yl := XG1.lt
 clear z0 z1 z2 zl hG
 go_wp2_with fail
 refine (l10SpotIs_r (sp : Int) _ _ _ _ _ _ _ _ _ true _ hx).mono ?_
 rintro e w2 ⟨rfl, hb2⟩
 have X2 := XG1.bel hb2
 have x0 : w2.cell? ⟨w.heap.size, 0, none⟩ = some (.slice a0 n0 c0) := X2.cell 0 (by simp)
 have x1 : w2.cell? ⟨w.heap.size, 1, none⟩ = some (.slice a1 n1 c1) := X2.cell 1 (by simp)
 have x2 : w2.cell? ⟨w.heap.size, 2, none⟩ = some (.slice a2 n2 c2) := X2.cell 2 (by simp)
 have xl := X2.lt
 have hB2 := bel_step hBW (bel_step hb1 hb2)
 have HO2 : Hid (w2.ownsRow w.heap.size 49 2 (.slice (some ⟨w.heap.size + 1, 0, none⟩) 0 0) 0 []) := own_bel HO0.out (bel_step hb1 hb2)
 obtain ⟨D, s, hMJ, h0⟩ := MJ.ends (S := mkS n1 false) (st := (sp : Int)) HP.out H1.out _ _ _ (MJ.start HP.out H1.out) (Nat.le_refl _)
 have hLst : lstD n1 false g (sp : Int) = mO n1 s.dl := lstD_eq (S := mkS n1 false) (hMJ.least h0).1 (hMJ.least h0).2
 have cR := l10Reach_any a0 n0 c0 a1 n1 c1 a2 n2 c2 g b0 b1 b2 sp (lstD n1 false g (sp : Int)) w2 (HT.out.1.bel spotE hB2) (HT.out.2.1.bel roadE hB2) (HT.out.2.2.bel banE hB2) H0.out H1.out H2.out HP.out hsp (by rw [hLst]; exact (hMJ.least h0).1) (fun x c hx => by rw [hLst] at hx; exact (mO_some.1 hx).2.2)
 rw [← HF.out] at cR
 have HB2 : Hid (Bel w w2) := hB2
 clear y0 y1 y2 yl XG1 hb1 hb2 X2 hB2 hMJ h0 hLst HO0
 go_wp2_with fail
 refine cR.mono ?_
 rintro e w3 ⟨B, rfl, hO, hb3⟩
 have HB3 : Hid (Bel w w3) := bel_step HB2.out hb3
 have HBl : Hid (B < w3.heap.size) := (World.ownsRow.lt hO B rfl).2
 have HC : Hid (∀ i, i < n0 → w3.cell? ⟨B, i, none⟩ = some (.int .i64 (iAt R i))) := fun i hi => by
  have h := World.ownsRow.cells hO (g := B) rfl i (.int .i64 (iAt R i)) (by
   rw [iAt_eq (by rw [HRl.out]; exact hi)]
   unfold intsV
   rw [List.getElem?_map, List.getElem?_eq_getElem (by rw [HRl.out]; exact hi)]
   rfl)
  rw [addr_add, Nat.zero_add] at h
  exact h
 have HI0 : Hid (WsS w.heap.size w3 (iAt R) lim 0 [] (w.heap.size + 1) 0 0 w3) := (⟨rfl, own_bel HO2.out hb3, WI.nil _ _, Nat.le_refl _, Bel.refl _, HB3.out.out.size⟩ : WsS w.heap.size w3 (iAt R) lim 0 [] (w.heap.size + 1) 0 0 w3)
 clear hO hb3 cR x0 x1 x2 xl HO2 hx
 go_wp2
 go_loopw [7, 9, 10] (fun u7 u9 _ wr => ∃ (k : Nat) (l : List Nat) (gB cap ln : Nat), k ≤ n0 ∧ u9 = .int .i64 k ∧ u7 = .slice (some ⟨gB, 0, none⟩) ln cap ∧ Hid (WsS w.heap.size w3 (iAt R) lim k l gB cap ln wr)) (fun _ u9 _ _ => n0 - (intOf u9).toNat)
 case atStart => exact ⟨0, [], w.heap.size + 1, 0, 0, Nat.zero_le _, rfl, rfl, HI0⟩
 case round =>
  clear HI0
  obtain ⟨k, l, gB, cap, ln, hk, rfl, rfl, HS⟩ := hrel
  by_cases hlt : k < n0
  ·have hlt' : (k : Int) < (n0 : Int) := by omega
   have HC2' : Hid (∀ w', Bel wr w' → w'.cell? ⟨B, k, none⟩ = some (.int .i64 (iAt R k))) := fun w' h => bel_cellM (bel_step HS.out.2.2.2.2.1 h) HBl.out (HC.out k hlt)
   have hBl : B < wr.heap.size := bel_lt HS.out.2.2.2.2.1 HBl.out
   obtain ⟨y, Hy⟩ : ∃ y, Hid (iAt R k = y) := ⟨_, (rfl : iAt R k = _)⟩
   rw [Hy.out] at HC2'
   have cx := HC2'.out wr (Bel.refl _)
   by_cases h0 : 0 ≤ y
   rotate_left
   ·have h0' : y < 0 := by omega
    have HN : Hid (WsS w.heap.size w3 (iAt R) lim (k + 1) l gB cap ln wr) := ⟨HS.out.1, HS.out.2.1, HS.out.2.2.1.skip (by rw [Hy.out]; omega), HS.out.2.2.2⟩
    go_wp2
    go_roundw
    case rel => exact ⟨k + 1, l, gB, cap, ln, by omega, by go_num, rfl, HN⟩
    case measure => simp [intOf]; omega
   have h0' : ¬ y < 0 := by omega
   by_cases h1 : y ≤ lim
   rotate_left
   ·have h1' : lim < y := by omega
    have HN : Hid (WsS w.heap.size w3 (iAt R) lim (k + 1) l gB cap ln wr) := ⟨HS.out.1, HS.out.2.1, HS.out.2.2.1.skip (by rw [Hy.out]; omega), HS.out.2.2.2⟩
    go_wp2
    go_roundw
    case rel => exact ⟨k + 1, l, gB, cap, ln, by omega, by go_num, rfl, HN⟩
    case measure => simp [intOf]; omega
   have h1' : ¬ lim < y := by omega
   have hln : ln ≤ 5000 := by have := HS.out.1; have := HS.out.2.2.1.len; omega
   have hlc : ln ≤ cap := HS.out.2.2.2.1
   obtain ⟨wo, rfl⟩ : ∃ V, V = wr := ⟨_, rfl⟩
   have HLo : Hid (∀ z ∈ l.drop ln, y < iAt R z) := fun z hz => by rw [List.drop_eq_nil_of_le (by rw [HS.out.1]; exact Nat.le_refl _)] at hz; cases hz
   go_wp2
   go_loopw [10] (fun u10 wz => ∃ (p : Nat), p ≤ ln ∧ u10 = .int .i64 p ∧ Hid (∀ z ∈ l.drop p, y < iAt R z) ∧ Hid (Bel wo wz)) (fun u10 _ => (intOf u10).toNat)
   case atStart => exact ⟨ln, Nat.le_refl _, rfl, HLo, Bel.refl _⟩
   case round =>
    clear HLo
    obtain ⟨p, hp, rfl, HD, HB⟩ := hrel
    obtain ⟨dc, Hdc⟩ : ∃ b : Bool, Hid (b = decide (0 < p ∧ y < iAt R (l.getD (p - 1) 0))) := ⟨_, (rfl : decide (0 < p ∧ y < iAt R (l.getD (p - 1) 0)) = _)⟩
    have HCr : Hid (∀ w', Bel wr w' → w'.cell? ⟨B, k, none⟩ = some (.int .i64 y)) := fun w' h => HC2'.out w' (bel_step HB.out h)
    go_upto_region 10 with fail
    go_cut [60] (fun v wx => v = .bool dc ∧ Hid (Bel wr wx))
    case first =>
     clear cx hBl
     by_cases hp0 : p = 0
     ·have HD0 : Hid (dc = false) := (by rw [Hdc.out, decide_eq_false_iff_not]; omega : dc = false)
      have hcI : decide ((0 : Int) < (p : Int)) = false := by rw [decide_eq_false_iff_not]; omega
      have hcN : decide (0 < p) = false := by rw [decide_eq_false_iff_not]; omega
      refine wp_region_noPanic ?_
      refine wp_region_held_drew (S := fun w' => Bel wr w') (by kernel_rfl) (Bel.refl _).drew (fun hHeld => ?_)
      generalize wr.drew = Y at hHeld ⊢
      refine tk 0 hHeld ?_
      refine tk 1 hHeld ?_
      refine tk 2 hHeld ?_
      refine sk 3 hHeld ?_; refine sk 4 hHeld ?_; refine sk 5 hHeld ?_; refine sk 6 hHeld ?_; refine sk 7 hHeld ?_; refine sk 8 hHeld ?_; refine sk 9 hHeld ?_; refine sk 10 hHeld ?_; refine sk 11 hHeld ?_; refine sk 12 hHeld ?_; refine sk 13 hHeld ?_
      refine tk 14 hHeld ?_
      refine wpAnyH_done (by kernel_rfl) ?_ _
      refine NoPanic.normal ?_
      go_wp2_with fail
      go_meet
      case rel => exact ⟨by rw [HD0.out], hHeld⟩
     ·obtain ⟨q, hq⟩ : ∃ q, p = q + 1 := ⟨p - 1, by omega⟩
      have hqI : (p : Int) - 1 = (q : Int) := by omega
      have hqn : (q : Int) < (ln : Int) := by omega
      have hwq : IntKind.i64.wrap (q : Int) = (q : Int) := by rw [IntKind.wrap_i64]; omega
      have hql : q < l.length := by rw [HS.out.1]; omega
      obtain ⟨hgl, hgc⟩ := HS.out.cells (q := q) (z := l[q]) (List.getElem?_eq_getElem hql)
      obtain ⟨kz, Hkz⟩ : ∃ y, Hid (iAt R l[q] = y) := ⟨_, (rfl : iAt R l[q] = _)⟩
      rw [Hkz.out] at hgc
      have HDq : Hid (dc = decide (y < kz)) := (by
       have e : l.getD (p - 1) 0 = l[q] := by rw [hq]; simp [hql]
       rw [Hdc.out, e, Hkz.out, decide_eq_decide]
       exact ⟨fun h => h.2, fun h => ⟨by omega, h⟩⟩ : dc = decide (y < kz))
      have HS9 : Hid ((fun w' : World => w'.cell? ⟨gB, q * 2 + 1, none⟩ = some (.int .i64 kz) ∧ w'.cell? ⟨B, k, none⟩ = some (.int .i64 y)) wr.drew) := (⟨bel_cellM (bel_step HB.out (Bel.refl _).drew) hgl hgc, HCr.out _ (Bel.refl _).drew⟩ : wr.drew.cell? ⟨gB, q * 2 + 1, none⟩ = some (.int .i64 kz) ∧ wr.drew.cell? ⟨B, k, none⟩ = some (.int .i64 y))
      have hcI : decide ((0 : Int) < (p : Int)) = true := by rw [decide_eq_true_iff]; omega
      have hcN : decide (0 < p) = true := by rw [decide_eq_true_iff]; omega
      have hp1 : 0 < p := by omega
      clear hgc hq
      refine wp_region_noPanic ?_
      refine wp_region_held_drew (S := fun w' => w'.cell? ⟨gB, q * 2 + 1, none⟩ = some (.int .i64 kz) ∧ w'.cell? ⟨B, k, none⟩ = some (.int .i64 y)) (by kernel_rfl) HS9.out (fun hHeld => ?_)
      have hY0 : Bel wr wr.drew := (Bel.refl _).drew
      clear HS9
      generalize wr.drew = Y at hHeld hY0 ⊢
      refine tk 0 hHeld ?_; refine tk 1 hHeld ?_; refine tk 2 hHeld ?_; refine tk 3 hHeld ?_; refine tk 4 hHeld ?_; refine tk 5 hHeld ?_; refine tk 6 hHeld ?_; refine tk 7 hHeld ?_; refine tk 8 hHeld ?_; refine tk 9 hHeld ?_; refine tk 10 hHeld ?_; refine tk 11 hHeld ?_; refine tk 12 hHeld ?_; refine tk 13 hHeld ?_; refine tk 14 hHeld ?_
      refine wpAnyH_done (by kernel_rfl) ?_ _
      refine NoPanic.normal ?_
      go_wp2_with fail
      go_meet
      case rel => exact ⟨by rw [HDq.out], hY0⟩
    case rest =>
     obtain ⟨rfl, HBc⟩ := hcut
     clear cx hBl
     cases dc
     ·have HE1 : Hid (p = 0 ∨ ∃ z, l[p - 1]? = some z ∧ iAt R z ≤ y) := (by
       have h := Hdc.out.symm
       rw [decide_eq_false_iff_not] at h
       by_cases hp0 : p = 0
       ·exact .inl hp0
       ·have hql : p - 1 < l.length := by rw [HS.out.1]; omega
        refine .inr ⟨l[p - 1], List.getElem?_eq_getElem hql, ?_⟩
        have e : l.getD (p - 1) 0 = l[p - 1] := by simp [hql]
        rw [e] at h
        by_cases h2 : y < iAt R l[p - 1]
        ·exact absurd ⟨by omega, h2⟩ h
        ·omega : p = 0 ∨ ∃ z, l[p - 1]? = some z ∧ iAt R z ≤ y)
      obtain ⟨wE, HwE⟩ : ∃ V, Hid (V = wc) := ⟨_, (rfl : wc = _)⟩
      have HbE : Hid (Bel wo wE) := (by rw [HwE.out]; exact bel_step HB.out HBc.out : Bel wo wE)
      have HC2 : Hid (∀ w', Bel wE w' → w'.cell? ⟨B, k, none⟩ = some (.int .i64 y)) := fun w' h => HC2'.out w' (bel_step HbE.out h)
      have HgE : Hid (∀ w', Bel wE w' → ∀ j u, wo.cell? ⟨gB, j, none⟩ = some u → w'.cell? ⟨gB, j, none⟩ = some u) := fun w' h j u hu => bel_cellM (bel_step HbE.out h) (World.ownsRow.lt HS.out.2.1 gB rfl).2 hu
      have HOut : Hid (∀ v3 wC, wC.ownsRow wE.heap.size 49 2 v3 (0 + p + 1 + (ln - p)) ((([] ++ ((((arD (iAt R) l).drop 0).take p).flatMap arCs)) ++ [.int .i64 (k : Int), .int .i64 y]) ++ ((((arD (iAt R) l).drop p).take (ln - p)).flatMap arCs)) → Bel wE wC → Hid (∃ gN cN, v3 = .slice (some ⟨gN, 0, none⟩) (ln + 1) cN ∧ Hid (WsS w.heap.size w3 (iAt R) lim (k + 1) (l.take p ++ k :: l.drop p) gN cN (ln + 1) wC))) := fun v3 wC ho hbC => WsS.put HS.out HbE.out Hy.out ⟨h0, h1⟩ hp HE1.out HD.out ho hbC
      have HN1 : Hid (∀ w', Bel wE w' → Src 2 w' (some ⟨gB, 0, none⟩) p ((((arD (iAt R) l).drop 0).take p).flatMap arCs)) := fun w' h => own_src (p := 0) (m := p) HS.out.2.1 (by rw [arD_len]; exact HS.out.1) (HgE.out w' h) (by omega) _ (.inr (by rw [Nat.zero_mul]))
      have hpc : (p : Int) ≤ (cap : Int) := by omega
      have hpn' : (p : Int) ≤ (ln : Int) := by omega
      rw [← HwE.out]
      go_upto_region 12 with fail
      by_cases hcp : cap = p
      ·have HN3 : Hid (∀ w', Bel wE w' → Src 2 w' (some ⟨gB, 0, none⟩) (ln - p) ((((arD (iAt R) l).drop p).take (ln - p)).flatMap arCs)) := fun w' h => own_src (p := p) (m := ln - p) HS.out.2.1 (by rw [arD_len]; exact HS.out.1) (HgE.out w' h) (by omega) _ (.inl (by omega))
       have hcp2 := hcp.symm
       clear hcp
       subst hcp2
       have he : ln - p = 0 := by omega
       rw [he] at HOut HN3
       clear he
       refine wp_region_noPanic ?_
       refine wp_region_held_drew (S := (fun w' => w'.cell? ⟨B, k, none⟩ = some (.int .i64 y) ∧ Bel wE w')) (by kernel_rfl) ⟨HC2.out _ (Bel.refl _).drew, (Bel.refl _).drew⟩ (fun hHeld => ?_)
       generalize wE.drew = wD at hHeld ⊢
       refine tk 1 hHeld ?_
       refine tk 2 hHeld ?_
       refine tk 3 hHeld ?_
       refine tk 5 hHeld ?_
       refine tk 6 hHeld ?_
       refine tk 7 hHeld ?_
       refine tk 8 hHeld ?_
       refine tk 9 hHeld ?_
       refine tk 10 hHeld ?_
       refine tk 13 hHeld ?_
       refine tk 14 hHeld ?_
       refine tkv 15 (.slice (some ⟨gB, 0, none⟩) 0 0) hHeld ?_ (hy := by (intro w hSw; (try dsimp only at hSw); go_simp; first | done | omega | (intro h; omega)))
       have HsD : Hid (wE.heap.size ≤ wD.heap.size) := hHeld.2.out.size
       refine rd2 0 11 (fun K hK => ?_) (fun K hK => ?_)
       ·go_simp
        refine hK.out _ _ (⟨HC2.out _ (bel_alloc hHeld.2 _), bel_alloc hHeld.2 _⟩) ?_; clear hK K hHeld; intro hHeld
        try simp only [Act.put, List.setIfInBounds_toArray, List.set_cons_zero, List.set_cons_succ]
        have hown0 := World.ownsRow_made (e := 49) (size := 2) (base := wE.heap.size) wD #[] 0 HsD.out (by unfold maxLen; omega) (by rfl)
        refine rd2 4 11 (fun K hK => ?_) (fun K hK => ?_)
        ·refine step_appS _ rfl _ _ _ rfl wE.heap.size 49 i0 (.agg #[.int .i64 0, .int .i64 0]) 2 16 Tryz.underlying28 hi0 hz0 hz1 hz2 rfl (by decide) (.slice (some ⟨wD.heap.size, 0, none⟩) 0 0) 0 [] (by rfl) hown0 _ p _ _ (by rfl) (HN1.out _ hHeld.2) (arCs_one _) (by unfold maxLen; omega) (by omega) hHeld.2.out.size ?_
         intro v1 wA hownA hgA
         refine hK.out _ _ (⟨HC2.out _ (bel_grow hHeld.2 hgA (fun k e => by have := hown0.lt k e; omega)), bel_grow hHeld.2 hgA (fun k e => by have := hown0.lt k e; omega)⟩) ?_; clear hK K hHeld; intro hHeld
         try simp only [Act.put, List.setIfInBounds_toArray, List.set_cons_zero, List.set_cons_succ]
         refine rd1 11 (fun K hK => ?_)
         go_simp
         refine hK.out _ _ (⟨HC2.out _ (bel_alloc hHeld.2 _), bel_alloc hHeld.2 _⟩) ?_; clear hK K hHeld; intro hHeld
         try simp only [Act.put, List.setIfInBounds_toArray, List.set_cons_zero, List.set_cons_succ]
         have hown1 := hownA.alloc (.cells #[.int .i64 (k : Int), .int .i64 y] 49)
         clear hownA hgA
         refine rd1 12 (fun K hK => ?_)
         obtain ⟨va1, vc1, rfl⟩ := own_shape hown1
         refine step_appS _ rfl _ _ _ rfl wE.heap.size 49 i0 (.agg #[.int .i64 0, .int .i64 0]) 2 16 Tryz.underlying28 hi0 hz0 hz1 hz2 rfl (by decide) (.slice va1 (0 + p) vc1) (0 + p) _ (by rfl) hown1 _ 1 _ [.int .i64 (k : Int), .int .i64 y] (by rfl) (one_src (B := wA.heap.size) (heap_alloc_new wA _)) (by simp [Value.oneCell']) (by unfold maxLen; omega) (by omega) hHeld.2.out.size ?_
         intro v2 wB hownB hgB
         refine hK.out _ _ (⟨HC2.out _ (bel_grow hHeld.2 hgB (fun k e => by have := hown1.lt k e; omega)), bel_grow hHeld.2 hgB (fun k e => by have := hown1.lt k e; omega)⟩) ?_; clear hK K hHeld; intro hHeld
         try simp only [Act.put, List.setIfInBounds_toArray, List.set_cons_zero, List.set_cons_succ]
         clear hown1
         refine rd1 16 (fun K hK => ?_)
         obtain ⟨va2, vc2, rfl⟩ := own_shape hownB
         refine step_appS _ rfl _ _ _ rfl wE.heap.size 49 i0 (.agg #[.int .i64 0, .int .i64 0]) 2 16 Tryz.underlying28 hi0 hz0 hz1 hz2 rfl (by decide) (.slice va2 (0 + p + 1) vc2) (0 + p + 1) _ (by rfl) hownB _ 0 _ _ (by rfl) (HN3.out _ hHeld.2) (arCs_one _) (by unfold maxLen; omega) (by omega) hHeld.2.out.size ?_
         intro v3 wC hownC hgC
         refine hK.out _ _ (⟨HC2.out _ (bel_grow hHeld.2 hgC (fun k e => by have := hownB.lt k e; omega)), bel_grow hHeld.2 hgC (fun k e => by have := hownB.lt k e; omega)⟩) ?_; clear hK K hHeld; intro hHeld
         try simp only [Act.put, List.setIfInBounds_toArray, List.set_cons_zero, List.set_cons_succ]
         refine rd1 17 (fun K hK => ?_)
         go_simp
         refine hK.out _ _ (hHeld) ?_; clear hK K hHeld; intro hHeld
         try simp only [Act.put, List.setIfInBounds_toArray, List.set_cons_zero, List.set_cons_succ]
         have HZ := HOut.out v3 wC hownC hHeld.2
         clear hownC hgC hownB hgB
         refine wpAnyH_done (by kernel_rfl) ?_ _
         refine NoPanic.normal ?_
         obtain ⟨gN, cN, rfl, HZ2⟩ := HZ.out
         go_wp2
         go_roundw
         case rel => exact ⟨k + 1, l.take p ++ k :: l.drop p, gN, cN, ln + 1, by omega, by go_num, rfl, HZ2⟩
         case measure => simp [intOf]; omega
        ·go_simp
         refine hK.out _ _ (⟨HC2.out _ (bel_alloc hHeld.2 _), bel_alloc hHeld.2 _⟩) ?_; clear hK K hHeld; intro hHeld
         try simp only [Act.put, List.setIfInBounds_toArray, List.set_cons_zero, List.set_cons_succ]
         have hown0b := hown0.alloc (.cells #[.int .i64 (k : Int), .int .i64 y] 49)
         have hblk : ((wD.alloc (.cells #[] 49)).alloc (.cells #[.int .i64 (k : Int), .int .i64 y] 49)).heap[wD.heap.size + 1]? = some (.cells #[.int .i64 (k : Int), .int .i64 y] 49) := by have h := heap_alloc_new (wD.alloc (.cells #[] 49)) (.cells #[.int .i64 (k : Int), .int .i64 y] 49); simpa using h
         refine rd1 4 (fun K hK => ?_)
         refine step_appS _ rfl _ _ _ rfl wE.heap.size 49 i0 (.agg #[.int .i64 0, .int .i64 0]) 2 16 Tryz.underlying28 hi0 hz0 hz1 hz2 rfl (by decide) (.slice (some ⟨wD.heap.size, 0, none⟩) 0 0) 0 [] (by rfl) hown0b _ p _ _ (by rfl) (HN1.out _ hHeld.2) (arCs_one _) (by unfold maxLen; omega) (by omega) hHeld.2.out.size ?_
         intro v1 wA hownA hgA
         refine hK.out _ _ (⟨HC2.out _ (bel_grow hHeld.2 hgA (fun k e => by have := hown0b.lt k e; omega)), bel_grow hHeld.2 hgA (fun k e => by have := hown0b.lt k e; omega)⟩) ?_; clear hK K hHeld; intro hHeld
         try simp only [Act.put, List.setIfInBounds_toArray, List.set_cons_zero, List.set_cons_succ]
         have hblk1 := (hgA.block (wD.heap.size + 1) (by simp) (by simp [Value.ownBlock])).trans hblk
         clear hgA
         refine rd1 12 (fun K hK => ?_)
         obtain ⟨va1, vc1, rfl⟩ := own_shape hownA
         refine step_appS _ rfl _ _ _ rfl wE.heap.size 49 i0 (.agg #[.int .i64 0, .int .i64 0]) 2 16 Tryz.underlying28 hi0 hz0 hz1 hz2 rfl (by decide) (.slice va1 (0 + p) vc1) (0 + p) _ (by rfl) hownA _ 1 _ [.int .i64 (k : Int), .int .i64 y] (by rfl) (one_src (B := wD.heap.size + 1) hblk1) (by simp [Value.oneCell']) (by unfold maxLen; omega) (by omega) hHeld.2.out.size ?_
         intro v2 wB hownB hgB
         refine hK.out _ _ (⟨HC2.out _ (bel_grow hHeld.2 hgB (fun k e => by have := hownA.lt k e; omega)), bel_grow hHeld.2 hgB (fun k e => by have := hownA.lt k e; omega)⟩) ?_; clear hK K hHeld; intro hHeld
         try simp only [Act.put, List.setIfInBounds_toArray, List.set_cons_zero, List.set_cons_succ]
         clear hownA
         refine rd1 16 (fun K hK => ?_)
         obtain ⟨va2, vc2, rfl⟩ := own_shape hownB
         refine step_appS _ rfl _ _ _ rfl wE.heap.size 49 i0 (.agg #[.int .i64 0, .int .i64 0]) 2 16 Tryz.underlying28 hi0 hz0 hz1 hz2 rfl (by decide) (.slice va2 (0 + p + 1) vc2) (0 + p + 1) _ (by rfl) hownB _ 0 _ _ (by rfl) (HN3.out _ hHeld.2) (arCs_one _) (by unfold maxLen; omega) (by omega) hHeld.2.out.size ?_
         intro v3 wC hownC hgC
         refine hK.out _ _ (⟨HC2.out _ (bel_grow hHeld.2 hgC (fun k e => by have := hownB.lt k e; omega)), bel_grow hHeld.2 hgC (fun k e => by have := hownB.lt k e; omega)⟩) ?_; clear hK K hHeld; intro hHeld
         try simp only [Act.put, List.setIfInBounds_toArray, List.set_cons_zero, List.set_cons_succ]
         refine rd1 17 (fun K hK => ?_)
         go_simp
         refine hK.out _ _ (hHeld) ?_; clear hK K hHeld; intro hHeld
         try simp only [Act.put, List.setIfInBounds_toArray, List.set_cons_zero, List.set_cons_succ]
         have HZ := HOut.out v3 wC hownC hHeld.2
         clear hownC hgC hownB hgB
         refine wpAnyH_done (by kernel_rfl) ?_ _
         refine NoPanic.normal ?_
         obtain ⟨gN, cN, rfl, HZ2⟩ := HZ.out
         go_wp2
         go_roundw
         case rel => exact ⟨k + 1, l.take p ++ k :: l.drop p, gN, cN, ln + 1, by omega, by go_num, rfl, HZ2⟩
         case measure => simp [intOf]; omega
       ·go_simp
        refine hK.out _ _ (⟨HC2.out _ (bel_alloc hHeld.2 _), bel_alloc hHeld.2 _⟩) ?_; clear hK K hHeld; intro hHeld
        try simp only [Act.put, List.setIfInBounds_toArray, List.set_cons_zero, List.set_cons_succ]
        refine rd1 0 (fun K hK => ?_)
        go_simp
        refine hK.out _ _ (⟨HC2.out _ (bel_alloc hHeld.2 _), bel_alloc hHeld.2 _⟩) ?_; clear hK K hHeld; intro hHeld
        try simp only [Act.put, List.setIfInBounds_toArray, List.set_cons_zero, List.set_cons_succ]
        have hown0 := World.ownsRow_made (e := 49) (size := 2) (base := wE.heap.size) (wD.alloc (.cells #[.int .i64 (k : Int), .int .i64 y] 49)) #[] 0 (by have := HsD.out; simp; omega) (by unfold maxLen; omega) (by rfl)
        have hsz1 : (wD.alloc (.cells #[.int .i64 (k : Int), .int .i64 y] 49)).heap.size = wD.heap.size + 1 := by simp
        rw [hsz1] at hown0
        have hblk : ((wD.alloc (.cells #[.int .i64 (k : Int), .int .i64 y] 49)).alloc (.cells #[] 49)).heap[wD.heap.size]? = some (.cells #[.int .i64 (k : Int), .int .i64 y] 49) := by have h := heap_alloc_new wD (.cells #[.int .i64 (k : Int), .int .i64 y] 49); have h2 := heap_alloc_old (wD.alloc (.cells #[.int .i64 (k : Int), .int .i64 y] 49)) (.cells #[] 49) (r := wD.heap.size) (by simp); exact h2.trans h
        refine rd1 4 (fun K hK => ?_)
        refine step_appS _ rfl _ _ _ rfl wE.heap.size 49 i0 (.agg #[.int .i64 0, .int .i64 0]) 2 16 Tryz.underlying28 hi0 hz0 hz1 hz2 rfl (by decide) (.slice (some ⟨wD.heap.size + 1, 0, none⟩) 0 0) 0 [] (by rfl) hown0 _ p _ _ (by rfl) (HN1.out _ hHeld.2) (arCs_one _) (by unfold maxLen; omega) (by omega) hHeld.2.out.size ?_
        intro v1 wA hownA hgA
        refine hK.out _ _ (⟨HC2.out _ (bel_grow hHeld.2 hgA (fun k e => by have := hown0.lt k e; omega)), bel_grow hHeld.2 hgA (fun k e => by have := hown0.lt k e; omega)⟩) ?_; clear hK K hHeld; intro hHeld
        try simp only [Act.put, List.setIfInBounds_toArray, List.set_cons_zero, List.set_cons_succ]
        have hblk1 := (hgA.block wD.heap.size (by simp; omega) (by simp [Value.ownBlock])).trans hblk
        clear hgA
        refine rd1 12 (fun K hK => ?_)
        obtain ⟨va1, vc1, rfl⟩ := own_shape hownA
        refine step_appS _ rfl _ _ _ rfl wE.heap.size 49 i0 (.agg #[.int .i64 0, .int .i64 0]) 2 16 Tryz.underlying28 hi0 hz0 hz1 hz2 rfl (by decide) (.slice va1 (0 + p) vc1) (0 + p) _ (by rfl) hownA _ 1 _ [.int .i64 (k : Int), .int .i64 y] (by rfl) (one_src (B := wD.heap.size) hblk1) (by simp [Value.oneCell']) (by unfold maxLen; omega) (by omega) hHeld.2.out.size ?_
        intro v2 wB hownB hgB
        refine hK.out _ _ (⟨HC2.out _ (bel_grow hHeld.2 hgB (fun k e => by have := hownA.lt k e; omega)), bel_grow hHeld.2 hgB (fun k e => by have := hownA.lt k e; omega)⟩) ?_; clear hK K hHeld; intro hHeld
        try simp only [Act.put, List.setIfInBounds_toArray, List.set_cons_zero, List.set_cons_succ]
        clear hownA
        refine rd1 16 (fun K hK => ?_)
        obtain ⟨va2, vc2, rfl⟩ := own_shape hownB
        refine step_appS _ rfl _ _ _ rfl wE.heap.size 49 i0 (.agg #[.int .i64 0, .int .i64 0]) 2 16 Tryz.underlying28 hi0 hz0 hz1 hz2 rfl (by decide) (.slice va2 (0 + p + 1) vc2) (0 + p + 1) _ (by rfl) hownB _ 0 _ _ (by rfl) (HN3.out _ hHeld.2) (arCs_one _) (by unfold maxLen; omega) (by omega) hHeld.2.out.size ?_
        intro v3 wC hownC hgC
        refine hK.out _ _ (⟨HC2.out _ (bel_grow hHeld.2 hgC (fun k e => by have := hownB.lt k e; omega)), bel_grow hHeld.2 hgC (fun k e => by have := hownB.lt k e; omega)⟩) ?_; clear hK K hHeld; intro hHeld
        try simp only [Act.put, List.setIfInBounds_toArray, List.set_cons_zero, List.set_cons_succ]
        refine rd1 17 (fun K hK => ?_)
        go_simp
        refine hK.out _ _ (hHeld) ?_; clear hK K hHeld; intro hHeld
        try simp only [Act.put, List.setIfInBounds_toArray, List.set_cons_zero, List.set_cons_succ]
        have HZ := HOut.out v3 wC hownC hHeld.2
        clear hownC hgC hownB hgB
        refine wpAnyH_done (by kernel_rfl) ?_ _
        refine NoPanic.normal ?_
        obtain ⟨gN, cN, rfl, HZ2⟩ := HZ.out
        go_wp2
        go_roundw
        case rel => exact ⟨k + 1, l.take p ++ k :: l.drop p, gN, cN, ln + 1, by omega, by go_num, rfl, HZ2⟩
        case measure => simp [intOf]; omega
      ·have HN3 : Hid (∀ w', Bel wE w' → Src 2 w' (some ⟨gB, p * 2, none⟩) (ln - p) ((((arD (iAt R) l).drop p).take (ln - p)).flatMap arCs)) := fun w' h => own_src (p := p) (m := ln - p) HS.out.2.1 (by rw [arD_len]; exact HS.out.1) (HgE.out w' h) (by omega) _ (.inr rfl)
       have hcp' : p < cap := by omega
       refine wp_region_noPanic ?_
       refine wp_region_held_drew (S := (fun w' => w'.cell? ⟨B, k, none⟩ = some (.int .i64 y) ∧ Bel wE w')) (by kernel_rfl) ⟨HC2.out _ (Bel.refl _).drew, (Bel.refl _).drew⟩ (fun hHeld => ?_)
       generalize wE.drew = wD at hHeld ⊢
       refine tk 1 hHeld ?_
       refine tk 2 hHeld ?_
       refine tk 3 hHeld ?_
       refine tk 5 hHeld ?_
       refine tk 6 hHeld ?_
       refine tk 7 hHeld ?_
       refine tk 8 hHeld ?_
       refine tk 9 hHeld ?_
       refine tk 10 hHeld ?_
       refine tk 13 hHeld ?_
       refine tk 14 hHeld ?_
       refine tkv 15 (.slice (some ⟨gB, p * 2, none⟩) (ln - p) (cap - p)) hHeld ?_ (hy := by (intro w hSw; (try dsimp only at hSw); go_simp; first | done | omega | (intro h; omega)))
       have HsD : Hid (wE.heap.size ≤ wD.heap.size) := hHeld.2.out.size
       refine rd2 0 11 (fun K hK => ?_) (fun K hK => ?_)
       ·go_simp
        refine hK.out _ _ (⟨HC2.out _ (bel_alloc hHeld.2 _), bel_alloc hHeld.2 _⟩) ?_; clear hK K hHeld; intro hHeld
        try simp only [Act.put, List.setIfInBounds_toArray, List.set_cons_zero, List.set_cons_succ]
        have hown0 := World.ownsRow_made (e := 49) (size := 2) (base := wE.heap.size) wD #[] 0 HsD.out (by unfold maxLen; omega) (by rfl)
        refine rd2 4 11 (fun K hK => ?_) (fun K hK => ?_)
        ·refine step_appS _ rfl _ _ _ rfl wE.heap.size 49 i0 (.agg #[.int .i64 0, .int .i64 0]) 2 16 Tryz.underlying28 hi0 hz0 hz1 hz2 rfl (by decide) (.slice (some ⟨wD.heap.size, 0, none⟩) 0 0) 0 [] (by rfl) hown0 _ p _ _ (by rfl) (HN1.out _ hHeld.2) (arCs_one _) (by unfold maxLen; omega) (by omega) hHeld.2.out.size ?_
         intro v1 wA hownA hgA
         refine hK.out _ _ (⟨HC2.out _ (bel_grow hHeld.2 hgA (fun k e => by have := hown0.lt k e; omega)), bel_grow hHeld.2 hgA (fun k e => by have := hown0.lt k e; omega)⟩) ?_; clear hK K hHeld; intro hHeld
         try simp only [Act.put, List.setIfInBounds_toArray, List.set_cons_zero, List.set_cons_succ]
         refine rd1 11 (fun K hK => ?_)
         go_simp
         refine hK.out _ _ (⟨HC2.out _ (bel_alloc hHeld.2 _), bel_alloc hHeld.2 _⟩) ?_; clear hK K hHeld; intro hHeld
         try simp only [Act.put, List.setIfInBounds_toArray, List.set_cons_zero, List.set_cons_succ]
         have hown1 := hownA.alloc (.cells #[.int .i64 (k : Int), .int .i64 y] 49)
         clear hownA hgA
         refine rd1 12 (fun K hK => ?_)
         obtain ⟨va1, vc1, rfl⟩ := own_shape hown1
         refine step_appS _ rfl _ _ _ rfl wE.heap.size 49 i0 (.agg #[.int .i64 0, .int .i64 0]) 2 16 Tryz.underlying28 hi0 hz0 hz1 hz2 rfl (by decide) (.slice va1 (0 + p) vc1) (0 + p) _ (by rfl) hown1 _ 1 _ [.int .i64 (k : Int), .int .i64 y] (by rfl) (one_src (B := wA.heap.size) (heap_alloc_new wA _)) (by simp [Value.oneCell']) (by unfold maxLen; omega) (by omega) hHeld.2.out.size ?_
         intro v2 wB hownB hgB
         refine hK.out _ _ (⟨HC2.out _ (bel_grow hHeld.2 hgB (fun k e => by have := hown1.lt k e; omega)), bel_grow hHeld.2 hgB (fun k e => by have := hown1.lt k e; omega)⟩) ?_; clear hK K hHeld; intro hHeld
         try simp only [Act.put, List.setIfInBounds_toArray, List.set_cons_zero, List.set_cons_succ]
         clear hown1
         refine rd1 16 (fun K hK => ?_)
         obtain ⟨va2, vc2, rfl⟩ := own_shape hownB
         refine step_appS _ rfl _ _ _ rfl wE.heap.size 49 i0 (.agg #[.int .i64 0, .int .i64 0]) 2 16 Tryz.underlying28 hi0 hz0 hz1 hz2 rfl (by decide) (.slice va2 (0 + p + 1) vc2) (0 + p + 1) _ (by rfl) hownB _ (ln - p) _ _ (by rfl) (HN3.out _ hHeld.2) (arCs_one _) (by unfold maxLen; omega) (by omega) hHeld.2.out.size ?_
         intro v3 wC hownC hgC
         refine hK.out _ _ (⟨HC2.out _ (bel_grow hHeld.2 hgC (fun k e => by have := hownB.lt k e; omega)), bel_grow hHeld.2 hgC (fun k e => by have := hownB.lt k e; omega)⟩) ?_; clear hK K hHeld; intro hHeld
         try simp only [Act.put, List.setIfInBounds_toArray, List.set_cons_zero, List.set_cons_succ]
         refine rd1 17 (fun K hK => ?_)
         go_simp
         refine hK.out _ _ (hHeld) ?_; clear hK K hHeld; intro hHeld
         try simp only [Act.put, List.setIfInBounds_toArray, List.set_cons_zero, List.set_cons_succ]
         have HZ := HOut.out v3 wC hownC hHeld.2
         clear hownC hgC hownB hgB
         refine wpAnyH_done (by kernel_rfl) ?_ _
         refine NoPanic.normal ?_
         obtain ⟨gN, cN, rfl, HZ2⟩ := HZ.out
         go_wp2
         go_roundw
         case rel => exact ⟨k + 1, l.take p ++ k :: l.drop p, gN, cN, ln + 1, by omega, by go_num, rfl, HZ2⟩
         case measure => simp [intOf]; omega
        ·go_simp
         refine hK.out _ _ (⟨HC2.out _ (bel_alloc hHeld.2 _), bel_alloc hHeld.2 _⟩) ?_; clear hK K hHeld; intro hHeld
         try simp only [Act.put, List.setIfInBounds_toArray, List.set_cons_zero, List.set_cons_succ]
         have hown0b := hown0.alloc (.cells #[.int .i64 (k : Int), .int .i64 y] 49)
         have hblk : ((wD.alloc (.cells #[] 49)).alloc (.cells #[.int .i64 (k : Int), .int .i64 y] 49)).heap[wD.heap.size + 1]? = some (.cells #[.int .i64 (k : Int), .int .i64 y] 49) := by have h := heap_alloc_new (wD.alloc (.cells #[] 49)) (.cells #[.int .i64 (k : Int), .int .i64 y] 49); simpa using h
         refine rd1 4 (fun K hK => ?_)
         refine step_appS _ rfl _ _ _ rfl wE.heap.size 49 i0 (.agg #[.int .i64 0, .int .i64 0]) 2 16 Tryz.underlying28 hi0 hz0 hz1 hz2 rfl (by decide) (.slice (some ⟨wD.heap.size, 0, none⟩) 0 0) 0 [] (by rfl) hown0b _ p _ _ (by rfl) (HN1.out _ hHeld.2) (arCs_one _) (by unfold maxLen; omega) (by omega) hHeld.2.out.size ?_
         intro v1 wA hownA hgA
         refine hK.out _ _ (⟨HC2.out _ (bel_grow hHeld.2 hgA (fun k e => by have := hown0b.lt k e; omega)), bel_grow hHeld.2 hgA (fun k e => by have := hown0b.lt k e; omega)⟩) ?_; clear hK K hHeld; intro hHeld
         try simp only [Act.put, List.setIfInBounds_toArray, List.set_cons_zero, List.set_cons_succ]
         have hblk1 := (hgA.block (wD.heap.size + 1) (by simp) (by simp [Value.ownBlock])).trans hblk
         clear hgA
         refine rd1 12 (fun K hK => ?_)
         obtain ⟨va1, vc1, rfl⟩ := own_shape hownA
         refine step_appS _ rfl _ _ _ rfl wE.heap.size 49 i0 (.agg #[.int .i64 0, .int .i64 0]) 2 16 Tryz.underlying28 hi0 hz0 hz1 hz2 rfl (by decide) (.slice va1 (0 + p) vc1) (0 + p) _ (by rfl) hownA _ 1 _ [.int .i64 (k : Int), .int .i64 y] (by rfl) (one_src (B := wD.heap.size + 1) hblk1) (by simp [Value.oneCell']) (by unfold maxLen; omega) (by omega) hHeld.2.out.size ?_
         intro v2 wB hownB hgB
         refine hK.out _ _ (⟨HC2.out _ (bel_grow hHeld.2 hgB (fun k e => by have := hownA.lt k e; omega)), bel_grow hHeld.2 hgB (fun k e => by have := hownA.lt k e; omega)⟩) ?_; clear hK K hHeld; intro hHeld
         try simp only [Act.put, List.setIfInBounds_toArray, List.set_cons_zero, List.set_cons_succ]
         clear hownA
         refine rd1 16 (fun K hK => ?_)
         obtain ⟨va2, vc2, rfl⟩ := own_shape hownB
         refine step_appS _ rfl _ _ _ rfl wE.heap.size 49 i0 (.agg #[.int .i64 0, .int .i64 0]) 2 16 Tryz.underlying28 hi0 hz0 hz1 hz2 rfl (by decide) (.slice va2 (0 + p + 1) vc2) (0 + p + 1) _ (by rfl) hownB _ (ln - p) _ _ (by rfl) (HN3.out _ hHeld.2) (arCs_one _) (by unfold maxLen; omega) (by omega) hHeld.2.out.size ?_
         intro v3 wC hownC hgC
         refine hK.out _ _ (⟨HC2.out _ (bel_grow hHeld.2 hgC (fun k e => by have := hownB.lt k e; omega)), bel_grow hHeld.2 hgC (fun k e => by have := hownB.lt k e; omega)⟩) ?_; clear hK K hHeld; intro hHeld
         try simp only [Act.put, List.setIfInBounds_toArray, List.set_cons_zero, List.set_cons_succ]
         refine rd1 17 (fun K hK => ?_)
         go_simp
         refine hK.out _ _ (hHeld) ?_; clear hK K hHeld; intro hHeld
         try simp only [Act.put, List.setIfInBounds_toArray, List.set_cons_zero, List.set_cons_succ]
         have HZ := HOut.out v3 wC hownC hHeld.2
         clear hownC hgC hownB hgB
         refine wpAnyH_done (by kernel_rfl) ?_ _
         refine NoPanic.normal ?_
         obtain ⟨gN, cN, rfl, HZ2⟩ := HZ.out
         go_wp2
         go_roundw
         case rel => exact ⟨k + 1, l.take p ++ k :: l.drop p, gN, cN, ln + 1, by omega, by go_num, rfl, HZ2⟩
         case measure => simp [intOf]; omega
       ·go_simp
        refine hK.out _ _ (⟨HC2.out _ (bel_alloc hHeld.2 _), bel_alloc hHeld.2 _⟩) ?_; clear hK K hHeld; intro hHeld
        try simp only [Act.put, List.setIfInBounds_toArray, List.set_cons_zero, List.set_cons_succ]
        refine rd1 0 (fun K hK => ?_)
        go_simp
        refine hK.out _ _ (⟨HC2.out _ (bel_alloc hHeld.2 _), bel_alloc hHeld.2 _⟩) ?_; clear hK K hHeld; intro hHeld
        try simp only [Act.put, List.setIfInBounds_toArray, List.set_cons_zero, List.set_cons_succ]
        have hown0 := World.ownsRow_made (e := 49) (size := 2) (base := wE.heap.size) (wD.alloc (.cells #[.int .i64 (k : Int), .int .i64 y] 49)) #[] 0 (by have := HsD.out; simp; omega) (by unfold maxLen; omega) (by rfl)
        have hsz1 : (wD.alloc (.cells #[.int .i64 (k : Int), .int .i64 y] 49)).heap.size = wD.heap.size + 1 := by simp
        rw [hsz1] at hown0
        have hblk : ((wD.alloc (.cells #[.int .i64 (k : Int), .int .i64 y] 49)).alloc (.cells #[] 49)).heap[wD.heap.size]? = some (.cells #[.int .i64 (k : Int), .int .i64 y] 49) := by have h := heap_alloc_new wD (.cells #[.int .i64 (k : Int), .int .i64 y] 49); have h2 := heap_alloc_old (wD.alloc (.cells #[.int .i64 (k : Int), .int .i64 y] 49)) (.cells #[] 49) (r := wD.heap.size) (by simp); exact h2.trans h
        refine rd1 4 (fun K hK => ?_)
        refine step_appS _ rfl _ _ _ rfl wE.heap.size 49 i0 (.agg #[.int .i64 0, .int .i64 0]) 2 16 Tryz.underlying28 hi0 hz0 hz1 hz2 rfl (by decide) (.slice (some ⟨wD.heap.size + 1, 0, none⟩) 0 0) 0 [] (by rfl) hown0 _ p _ _ (by rfl) (HN1.out _ hHeld.2) (arCs_one _) (by unfold maxLen; omega) (by omega) hHeld.2.out.size ?_
        intro v1 wA hownA hgA
        refine hK.out _ _ (⟨HC2.out _ (bel_grow hHeld.2 hgA (fun k e => by have := hown0.lt k e; omega)), bel_grow hHeld.2 hgA (fun k e => by have := hown0.lt k e; omega)⟩) ?_; clear hK K hHeld; intro hHeld
        try simp only [Act.put, List.setIfInBounds_toArray, List.set_cons_zero, List.set_cons_succ]
        have hblk1 := (hgA.block wD.heap.size (by simp; omega) (by simp [Value.ownBlock])).trans hblk
        clear hgA
        refine rd1 12 (fun K hK => ?_)
        obtain ⟨va1, vc1, rfl⟩ := own_shape hownA
        refine step_appS _ rfl _ _ _ rfl wE.heap.size 49 i0 (.agg #[.int .i64 0, .int .i64 0]) 2 16 Tryz.underlying28 hi0 hz0 hz1 hz2 rfl (by decide) (.slice va1 (0 + p) vc1) (0 + p) _ (by rfl) hownA _ 1 _ [.int .i64 (k : Int), .int .i64 y] (by rfl) (one_src (B := wD.heap.size) hblk1) (by simp [Value.oneCell']) (by unfold maxLen; omega) (by omega) hHeld.2.out.size ?_
        intro v2 wB hownB hgB
        refine hK.out _ _ (⟨HC2.out _ (bel_grow hHeld.2 hgB (fun k e => by have := hownA.lt k e; omega)), bel_grow hHeld.2 hgB (fun k e => by have := hownA.lt k e; omega)⟩) ?_; clear hK K hHeld; intro hHeld
        try simp only [Act.put, List.setIfInBounds_toArray, List.set_cons_zero, List.set_cons_succ]
        clear hownA
        refine rd1 16 (fun K hK => ?_)
        obtain ⟨va2, vc2, rfl⟩ := own_shape hownB
        refine step_appS _ rfl _ _ _ rfl wE.heap.size 49 i0 (.agg #[.int .i64 0, .int .i64 0]) 2 16 Tryz.underlying28 hi0 hz0 hz1 hz2 rfl (by decide) (.slice va2 (0 + p + 1) vc2) (0 + p + 1) _ (by rfl) hownB _ (ln - p) _ _ (by rfl) (HN3.out _ hHeld.2) (arCs_one _) (by unfold maxLen; omega) (by omega) hHeld.2.out.size ?_
        intro v3 wC hownC hgC
        refine hK.out _ _ (⟨HC2.out _ (bel_grow hHeld.2 hgC (fun k e => by have := hownB.lt k e; omega)), bel_grow hHeld.2 hgC (fun k e => by have := hownB.lt k e; omega)⟩) ?_; clear hK K hHeld; intro hHeld
        try simp only [Act.put, List.setIfInBounds_toArray, List.set_cons_zero, List.set_cons_succ]
        refine rd1 17 (fun K hK => ?_)
        go_simp
        refine hK.out _ _ (hHeld) ?_; clear hK K hHeld; intro hHeld
        try simp only [Act.put, List.setIfInBounds_toArray, List.set_cons_zero, List.set_cons_succ]
        have HZ := HOut.out v3 wC hownC hHeld.2
        clear hownC hgC hownB hgB
        refine wpAnyH_done (by kernel_rfl) ?_ _
        refine NoPanic.normal ?_
        obtain ⟨gN, cN, rfl, HZ2⟩ := HZ.out
        go_wp2
        go_roundw
        case rel => exact ⟨k + 1, l.take p ++ k :: l.drop p, gN, cN, ln + 1, by omega, by go_num, rfl, HZ2⟩
        case measure => simp [intOf]; omega
     ·have hdc := Hdc.out.symm
      rw [decide_eq_true_iff] at hdc
      obtain ⟨q, hq⟩ : ∃ q, p = q + 1 := ⟨p - 1, by omega⟩
      have hqI : (p : Int) - 1 = (q : Int) := by omega
      have HD2 : Hid (∀ z ∈ l.drop q, y < iAt R z) := fun z hz => by
       have hql : q < l.length := by rw [HS.out.1]; omega
       rw [List.drop_eq_getElem_cons hql] at hz
       rcases List.mem_cons.1 hz with rfl | hz
       ·have e : l.getD (p - 1) 0 = l[q] := by rw [hq]; simp [hql]
        have := hdc.2
        rw [e] at this
        exact this
       ·exact HD.out z (by rw [hq]; exact hz)
      have HB3 : Hid (Bel wo wc) := bel_step HB.out HBc.out
      have hqp : q < p := by omega
      have hqn : q ≤ ln := by omega
      clear hq hdc
      go_wp2
      go_roundw
      case rel => exact ⟨q, hqn, by go_num, HD2, HB3⟩
      case measure => simp [intOf]; omega
  ·obtain rfl : k = n0 := by omega
   have hge : ¬ (k : Int) < (k : Int) := by omega
   have HE : Hid (OwnA w.heap.size wr (.slice (some ⟨gB, 0, none⟩) ln cap) (arD (iAt R) l).length (arD (iAt R) l) ∧ WI (iAt R) lim k l ∧ Bel w wr) := ⟨by rw [arD_len, HS.out.1]; exact HS.out.2.1, HS.out.2.2.1, bel_step HB3.out HS.out.2.2.2.2.1⟩
   go_wp2
   go_ret
   first | exact ⟨_, rfl, l, HE.out.1, HE.out.2.1, HE.out.2.2⟩ | exact ⟨_, l, rfl, HE.out.1, HE.out.2.1, HE.out.2.2⟩
end Go.Proofs.YtdlgehnoiaoneaaGreatDoor
