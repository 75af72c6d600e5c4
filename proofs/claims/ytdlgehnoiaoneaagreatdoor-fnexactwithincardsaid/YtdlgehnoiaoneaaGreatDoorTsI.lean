/-
  What a turn costs, in the model: contract.
-/
import Derived.Test.YtdlgehnoiaoneaaGreatDoorGH
import Derived.Test.YtdlgehnoiaoneaaGreatDoorGS
import Derived.Test.YtdlgehnoiaoneaaGreatDoorGG
import Derived.Test.YtdlgehnoiaoneaaGreatDoorGI
import Derived.Deep.RegionHeld3
namespace Go.Proofs.YtdlgehnoiaoneaaGreatDoor
open Go.RowKit Go.Maps

theorem spot_at {w : World} {b off : Nat} {l : List SpotD} {bs : List Nat} (h : SpotL w (some ⟨b, off, none⟩) l bs) {p : Nat} (hp : p < l.length) :
  w.cell? ⟨b, off + p * 3 + 1, none⟩ = some (.int .i64 l[p].x) ∧ w.cell? ⟨b, off + p * 3 + 1 + 1, none⟩ = some (.int .i64 l[p].y) := by
 obtain ⟨b', off', f, e, _, hx⟩ := h.out hp
 injection e with e
 injection e with e1 e2
 subst e1 e2
 obtain ⟨_, _, _, _, _, h1, h2⟩ := hx p hp
 exact ⟨h1, h2⟩

set_option maxRecDepth 100000 in
set_option maxHeartbeats 4000000 in
theorem specTurn_any (a0 : Option Addr) (n0 c0 : Nat) (a1 : Option Addr) (n1 c1 : Nat) (a2 : Option Addr) (n2 c2 : Nat) (g : GraphD) (b0 b1 b2 : List Nat) (i j : Nat) (w : World) (t0 : SpotL w a0 g.places b0) (t1 : RoadL w a1 g.roads b1) (t2 : BanL w a2 g.bans b2) (e0 : g.places.length = n0) (e1 : g.roads.length = n1) (e2 : g.bans.length = n2) (hP : graphP g) (hi : i < n1) (hj : j < n1) :
  Calls Tryz.prog 37 #[gphV a0 n0 c0 a1 n1 c1 a2 n2 c2, .int .i64 (i : Int), .int .i64 (j : Int)] w fun e w' => e = .returned (.int .i64 (tnB g i j)) ∧ Bel w w' := by
 have H0 : Hid (g.places.length = n0) := e0
 have H1 : Hid (g.roads.length = n1) := e1
 have H2 : Hid (g.bans.length = n2) := e2
 have m2 : n2 ≤ 2000 := by rw [← e2]; exact hP.1.2.2
 have hil : i < g.roads.length := by rw [e1]; exact hi
 have hjl : j < g.roads.length := by rw [e1]; exact hj
 have hro := roadB_out (hP.2.2.1 i hil)
 obtain ⟨p, hp, ep⟩ := inN_nat (n := g.places.length) (x := g.roads[i].fr) (inN_iff.2 hro.1)
 obtain ⟨q, hq, eq⟩ := inN_nat (n := g.places.length) (x := g.roads[i].to) (inN_iff.2 hro.2.1)
 have hrj := roadB_out (hP.2.2.1 j hjl)
 obtain ⟨r, hr, er⟩ := inN_nat (n := g.places.length) (x := g.roads[j].fr) (inN_iff.2 hrj.1)
 obtain ⟨s, hs, es⟩ := inN_nat (n := g.places.length) (x := g.roads[j].to) (inN_iff.2 hrj.2.1)
 have HA : Hid (hdR g i = headOf g.places[p].x g.places[p].y g.places[q].x g.places[q].y) := hdR_at hil hp hq ep eq
 have HB : Hid (hdR g j = headOf g.places[r].x g.places[r].y g.places[s].x g.places[s].y) := hdR_at hjl hr hs er es
 have HPF : Hid ((rdAt g i).fr = (p : Int)) := (by rw [rdAt_eq hil]; exact ep : (rdAt g i).fr = (p : Int))
 have HQT : Hid ((rdAt g j).to = (s : Int)) := (by rw [rdAt_eq hjl]; exact es : (rdAt g j).to = (s : Int))
 have HBP : Hid (bansP g.roads g.bans) := hP.2.2.2
 obtain ⟨W, HW⟩ : ∃ W, Hid (W = w.alloc (.cells #[.slice a0 n0 c0, .slice a1 n1 c1, .slice a2 n2 c2] 34)) := ⟨_, (rfl : w.alloc (.cells #[.slice a0 n0 c0, .slice a1 n1 c1, .slice a2 n2 c2] 34) = _)⟩
 have hBW : Bel w W := by rw [HW.out]; exact bel_alloc (Bel.refl _) _
 have XG : Blk W w.heap.size [.slice a0 n0 c0, .slice a1 n1 c1, .slice a2 n2 c2] := by rw [HW.out]; exact Blk.new w [.slice a0 n0 c0, .slice a1 n1 c1, .slice a2 n2 c2] _
 obtain ⟨R, HR⟩ : ∃ R, Hid (tnB g i j = R) := ⟨_, (rfl : tnB g i j = _)⟩
 rw [HR.out]
 clear hP hro hrj
 go_enter Tryz.func37, Tryz.ntmps37
 go_wp2_with fail
 rw [← HW.out]
 refine (banned_any _ _ _ _ _ _ _ _ _ g.roads g.bans b2 _ _ _ (t2.bel banE hBW) H2.out m2 HBP.out).mono ?_
 rintro e w1 ⟨rfl, hb1⟩
 have hB1 := bel_step hBW hb1
 have XG1 := XG.bel hb1
 rcases Bool.eq_false_or_eq_true (bP (inL g.bans (i : Int) (j : Int))) with hin | hin
 ·have HF : Hid (R = -1) := (by rw [← HR.out]; exact tnB_ban hin : R = -1)
  rw [hin]
  go_wp2
  go_ret
  exact ⟨by rw [HF.out]; rfl, hB1⟩
 ·have HR1 : Hid (R = tnC g i j) := (by rw [← HR.out]; exact tnB_ok hin : R = tnC g i j)
  rw [hin]
  clear hin XG
  obtain ⟨b, off, f, rfl, hb, hx⟩ := (t1.bel roadE hB1).out hil
  obtain ⟨_, _, _, _, _, _, _, y0, y1, y2, y3, y4, y5⟩ := hx i hil
  obtain ⟨_, _, _, _, _, _, _, z0, z1, z2, z3, z4, z5⟩ := hx j hjl
  rw [ep] at y0
  rw [eq] at y1
  rw [er] at z0
  rw [es] at z1
  obtain ⟨d, Hd⟩ : ∃ d, Hid (d = g.roads[i]) := ⟨_, (rfl : g.roads[i] = _)⟩
  rw [← Hd.out] at y2 y3 y4 y5
  obtain ⟨h, Hh⟩ : ∃ d, Hid (d = g.roads[j]) := ⟨_, (rfl : g.roads[j] = _)⟩
  rw [← Hh.out] at z2 z3 z4 z5
  obtain ⟨b', off', f', rfl, hb', _⟩ := (t0.bel spotE hB1).out hp
  have x1 : w1.cell? ⟨w.heap.size, 1, none⟩ = some (.slice (some ⟨b, off, none⟩) n1 c1) := XG1.cell 1 (by simp)
  have xl := XG1.lt
  obtain ⟨X, HX⟩ : ∃ X, Hid (X = w1.alloc (.cells #[.int .i64 (p : Int), .int .i64 (q : Int), .int .i64 d.way, .int .i64 d.time, .int .i64 d.len, .string d.name] 71)) := ⟨_, (rfl : w1.alloc (.cells #[.int .i64 (p : Int), .int .i64 (q : Int), .int .i64 d.way, .int .i64 d.time, .int .i64 d.len, .string d.name] 71) = _)⟩
  have hbX : Bel w1 X := by rw [HX.out]; exact bel_alloc (Bel.refl _) _
  have XA : Blk X w1.heap.size [.int .i64 (p : Int), .int .i64 (q : Int), .int .i64 d.way, .int .i64 d.time, .int .i64 d.len, .string d.name] := by rw [HX.out]; exact Blk.new w1 [.int .i64 (p : Int), .int .i64 (q : Int), .int .i64 d.way, .int .i64 d.time, .int .i64 d.len, .string d.name] _
  obtain ⟨Y, HY⟩ : ∃ Y, Hid (Y = X.alloc (.cells #[.int .i64 (r : Int), .int .i64 (s : Int), .int .i64 h.way, .int .i64 h.time, .int .i64 h.len, .string h.name] 71)) := ⟨_, (rfl : X.alloc (.cells #[.int .i64 (r : Int), .int .i64 (s : Int), .int .i64 h.way, .int .i64 h.time, .int .i64 h.len, .string h.name] 71) = _)⟩
  have hbY : Bel X Y := by rw [HY.out]; exact bel_alloc (Bel.refl _) _
  have XB : Blk Y X.heap.size [.int .i64 (r : Int), .int .i64 (s : Int), .int .i64 h.way, .int .i64 h.time, .int .i64 h.len, .string h.name] := by rw [HY.out]; exact Blk.new X [.int .i64 (r : Int), .int .i64 (s : Int), .int .i64 h.way, .int .i64 h.time, .int .i64 h.len, .string h.name] _
  have XA' := XA.bel hbY
  have XG2 := XG1.bel hbX
  have XG3 := XG2.bel hbY
  have hBY := bel_step (bel_step hB1 hbX) hbY
  have x1X : X.cell? ⟨w.heap.size, 1, none⟩ = some (.slice (some ⟨b, off, none⟩) n1 c1) := XG2.cell 1 (by simp)
  have xlX := XG2.lt
  have z0X := bel_cellM hbX hb z0
  have z1X := bel_cellM hbX hb z1
  have z2X := bel_cellM hbX hb z2
  have z3X := bel_cellM hbX hb z3
  have z4X := bel_cellM hbX hb z4
  have z5X := bel_cellM hbX hb z5
  have hiI : (i : Int) < (n1 : Int) := by omega
  have hjI : (j : Int) < (n1 : Int) := by omega
  clear hx z0 z1 z2 z3 z4 z5
  go_upto_region 4 with fail
  rw [← HX.out]
  clear y0 y1 y2 y3 y4 y5 x1 xl
  go_upto_region 5 with fail
  rw [← HY.out]
  clear z0X z1X z2X z3X z4X z5X x1X xlX
  have ya : Y.cell? ⟨w1.heap.size, 0, none⟩ = some (.int .i64 (p : Int)) := XA'.cell 0 (by simp)
  have yb : Y.cell? ⟨X.heap.size, 1, none⟩ = some (.int .i64 (s : Int)) := XB.cell 1 (by simp)
  have yla := XA'.lt
  have ylb := XB.lt
  by_cases he : (s : Int) = (p : Int)
  ·have hE : ((s : Int) == (p : Int)) = true := by simp [he]
   have HF : Hid (R = 20) := (by rw [HR1.out]; exact tnC_back (by rw [HQT.out, HPF.out]; exact he) : R = 20)
   clear he
   go_wp2
   go_ret
   exact ⟨by rw [HF.out]; rfl, hBY⟩
  ·have hE : ((s : Int) == (p : Int)) = false := by simp only [beq_eq_false_iff_ne]; exact he
   obtain ⟨A, HAA⟩ : ∃ A, Hid (hdR g i = A) := ⟨_, (rfl : hdR g i = _)⟩
   obtain ⟨B, HBB⟩ : ∃ B, Hid (hdR g j = B) := ⟨_, (rfl : hdR g j = _)⟩
   have HR2 : Hid (R = wdC A B) := (by rw [HR1.out, ← HAA.out, ← HBB.out]; exact tnC_on (by rw [HQT.out, HPF.out]; exact he) : R = wdC A B)
   have hAd := hdR_bd g i
   have hBd := hdR_bd g j
   rw [HAA.out] at hAd
   rw [HBB.out] at hBd
   obtain ⟨hA0, hA1⟩ := hAd
   obtain ⟨hB0, hB1'⟩ := hBd
   clear he
   obtain ⟨xp, Hxp⟩ : ∃ x, Hid (g.places[p].x = x) := ⟨_, (rfl : g.places[p].x = _)⟩
   obtain ⟨yp, Hyp⟩ : ∃ x, Hid (g.places[p].y = x) := ⟨_, (rfl : g.places[p].y = _)⟩
   obtain ⟨xq, Hxq⟩ : ∃ x, Hid (g.places[q].x = x) := ⟨_, (rfl : g.places[q].x = _)⟩
   obtain ⟨yq, Hyq⟩ : ∃ x, Hid (g.places[q].y = x) := ⟨_, (rfl : g.places[q].y = _)⟩
   obtain ⟨xr, Hxr⟩ : ∃ x, Hid (g.places[r].x = x) := ⟨_, (rfl : g.places[r].x = _)⟩
   obtain ⟨yr, Hyr⟩ : ∃ x, Hid (g.places[r].y = x) := ⟨_, (rfl : g.places[r].y = _)⟩
   obtain ⟨xs, Hxs⟩ : ∃ x, Hid (g.places[s].x = x) := ⟨_, (rfl : g.places[s].x = _)⟩
   obtain ⟨ys, Hys⟩ : ∃ x, Hid (g.places[s].y = x) := ⟨_, (rfl : g.places[s].y = _)⟩
   rw [Hxp.out, Hyp.out, Hxq.out, Hyq.out, HAA.out] at HA
   rw [Hxr.out, Hyr.out, Hxs.out, Hys.out, HBB.out] at HB
   have hS : ∀ w', Bel Y w' → w'.cell? ⟨w.heap.size, 0, none⟩ = some (.slice (some ⟨b', off', none⟩) n0 c0) ∧ w'.cell? ⟨w1.heap.size, 0, none⟩ = some (.int .i64 (p : Int)) ∧ w'.cell? ⟨w1.heap.size, 1, none⟩ = some (.int .i64 (q : Int)) ∧ w'.cell? ⟨X.heap.size, 0, none⟩ = some (.int .i64 (r : Int)) ∧ w'.cell? ⟨X.heap.size, 1, none⟩ = some (.int .i64 (s : Int)) ∧
     (w'.cell? ⟨b', off' + p * 3 + 1, none⟩ = some (.int .i64 xp) ∧ w'.cell? ⟨b', off' + p * 3 + 1 + 1, none⟩ = some (.int .i64 yp)) ∧ (w'.cell? ⟨b', off' + q * 3 + 1, none⟩ = some (.int .i64 xq) ∧ w'.cell? ⟨b', off' + q * 3 + 1 + 1, none⟩ = some (.int .i64 yq)) ∧ (w'.cell? ⟨b', off' + r * 3 + 1, none⟩ = some (.int .i64 xr) ∧ w'.cell? ⟨b', off' + r * 3 + 1 + 1, none⟩ = some (.int .i64 yr)) ∧ (w'.cell? ⟨b', off' + s * 3 + 1, none⟩ = some (.int .i64 xs) ∧ w'.cell? ⟨b', off' + s * 3 + 1 + 1, none⟩ = some (.int .i64 ys)) := fun w' h => by
    have k0 := t0.bel spotE (bel_step hBY h)
    have kp := spot_at k0 hp
    have kq := spot_at k0 hq
    have kr := spot_at k0 hr
    have ks := spot_at k0 hs
    rw [Hxp.out, Hyp.out] at kp
    rw [Hxq.out, Hyq.out] at kq
    rw [Hxr.out, Hyr.out] at kr
    rw [Hxs.out, Hys.out] at ks
    exact ⟨(XG3.bel h).cell 0 (by simp), (XA'.bel h).cell 0 (by simp), (XA'.bel h).cell 1 (by simp), (XB.bel h).cell 0 (by simp), (XB.bel h).cell 1 (by simp), kp, kq, kr, ks⟩
   have hpn : (p : Int) < (n0 : Int) := by rw [← H0.out]; omega
   have hqn : (q : Int) < (n0 : Int) := by rw [← H0.out]; omega
   have hrn : (r : Int) < (n0 : Int) := by rw [← H0.out]; omega
   have hsn : (s : Int) < (n0 : Int) := by rw [← H0.out]; omega
   have hH1 : ∀ w', Calls Tryz.prog 52 #[pt xp yp, pt xq yq] w' fun e w2 => e = .returned (.int .i64 A) ∧ Bel w' w2 := fun w' => by rw [HA.out]; exact specHeading_any _ _ _ _ _
   have hH2 : ∀ w', Calls Tryz.prog 52 #[pt xr yr, pt xs ys] w' fun e w2 => e = .returned (.int .i64 B) ∧ Bel w' w2 := fun w' => by rw [HB.out]; exact specHeading_any _ _ _ _ _
   have g0 : Bel Y Y := Bel.refl _
   clear XG1 XG2 XG3 XA XA' XB
   go_upto_region 7 with fail
   clear ya yb yla ylb
   go_region_held3 (fun w' => Bel Y w') (with_reducible (repeat (first | assumption | exact g0 | refine Bel.drew ?_ | refine bel_then (by assumption) ?_)))
    ((go_at_call 52; refine (hH1 _).mono ?_; rintro e w2 ⟨rfl, hb2⟩))
   have hY2 : Bel Y w2 := by assumption
   go_upto_region 8 with fail
   go_region_held3 (fun w' => Bel Y w') (with_reducible (repeat (first | assumption | exact hY2 | refine Bel.drew ?_ | refine bel_then (by assumption) ?_)))
    ((go_at_call 52; refine (hH2 _).mono ?_; rintro e w3 ⟨rfl, hb3⟩))
   have hY3 : Bel Y w3 := by assumption
   have hBE : Bel w w3 := bel_step hBY hY3
   clear hS hH1 hH2
   by_cases hAn : A < 0
   ·have hAb : decide (A < 0) = true := by simp [hAn]
    have HF : Hid (R = _) := HR2.out.trans (wdC_no (.inl hAn))
    go_wp2
    go_ret
    exact ⟨by rw [HF.out]; rfl, hBE⟩
   have hAb : decide (A < 0) = false := by simp; omega
   by_cases hBn : B < 0
   ·have hBb : decide (B < 0) = true := by simp [hBn]
    have HF : Hid (R = _) := HR2.out.trans (wdC_no (.inr hBn))
    go_wp2
    go_ret
    exact ⟨by rw [HF.out]; rfl, hBE⟩
   have hBb : decide (B < 0) = false := by simp; omega
   have hn : ¬ (A < 0 ∨ B < 0) := by omega
   have hcs : (B - A + 8) % 8 = 0 ∨ (B - A + 8) % 8 = 1 ∨ (B - A + 8) % 8 = 2 ∨ (B - A + 8) % 8 = 3 ∨ (B - A + 8) % 8 = 4 ∨ (B - A + 8) % 8 = 5 ∨ (B - A + 8) % 8 = 6 ∨ (B - A + 8) % 8 = 7 := by omega
   have htm : ∀ k, (B - A + 8) % 8 = k → Int.tmod (B - A + 8) 8 = k := fun k h => by rw [Int.tmod_eq_emod_of_nonneg (by omega)]; exact h
   rcases hcs with hc | hc | hc | hc | hc | hc | hc | hc
   ·have ht := htm _ hc
    have HF : Hid (R = _) := HR2.out.trans (wdC_0 hn (.inl hc))
    clear hc htm
    go_wp2
    go_ret
    exact ⟨by rw [HF.out]; rfl, hBE⟩
   ·have ht := htm _ hc
    have HF : Hid (R = _) := HR2.out.trans (wdC_0 hn (.inr (.inl hc)))
    clear hc htm
    go_wp2
    go_ret
    exact ⟨by rw [HF.out]; rfl, hBE⟩
   ·have ht := htm _ hc
    have HF : Hid (R = _) := HR2.out.trans (wdC_5 hn (.inl hc))
    clear hc htm
    go_wp2
    go_ret
    exact ⟨by rw [HF.out]; rfl, hBE⟩
   ·have ht := htm _ hc
    have HF : Hid (R = _) := HR2.out.trans (wdC_5 hn (.inr (.inl hc)))
    clear hc htm
    go_wp2
    go_ret
    exact ⟨by rw [HF.out]; rfl, hBE⟩
   ·have ht := htm _ hc
    have HF : Hid (R = _) := HR2.out.trans (wdC_5 hn (.inr (.inr hc)))
    clear hc htm
    go_wp2
    go_ret
    exact ⟨by rw [HF.out]; rfl, hBE⟩
   ·have ht := htm _ hc
    have HF : Hid (R = _) := HR2.out.trans (wdC_3 hn (.inl hc))
    clear hc htm
    go_wp2
    go_ret
    exact ⟨by rw [HF.out]; rfl, hBE⟩
   ·have ht := htm _ hc
    have HF : Hid (R = _) := HR2.out.trans (wdC_3 hn (.inr hc))
    clear hc htm
    go_wp2
    go_ret
    exact ⟨by rw [HF.out]; rfl, hBE⟩
   ·have ht := htm _ hc
    have HF : Hid (R = _) := HR2.out.trans (wdC_0 hn (.inr (.inr hc)))
    clear hc htm
    go_wp2
    go_ret
    exact ⟨by rw [HF.out]; rfl, hBE⟩
end Go.Proofs.YtdlgehnoiaoneaaGreatDoor
