/-
  What a turn costs, in the model: contract.
  TurnTime in the model: contract.
  PathTime in the model: contract.
-/
import Derived.Test.YtponmbjflablcaaDoorTtM
import Derived.Test.YtponmbjflablcaaDoorBndS
import Derived.Test.YtponmbjflablcaaDoorHeadA
import Derived.Test.YtponmbjflablcaaDoorGphP
import Derived.Deep.RegionHeld3
import Derived.Test.YtponmbjflablcaaDoorGphS
import Derived.Test.YtponmbjflablcaaDoorPaM
namespace Go.Proofs.YtponmbjflablcaaDoor
open Go.RowKit Go.Maps

theorem spot_at {w : World} {b off : Nat} {l : List SpotD} {bs : List Nat} (h : SpotL w (some ⟨b, off, none⟩) l bs) {p : Nat} (hp : p < l.length) :
    w.cell? ⟨b, off + p * 3 + 1, none⟩ = some (.int .i64 l[p].x) ∧ w.cell? ⟨b, off + p * 3 + 1 + 1, none⟩ = some (.int .i64 l[p].y) := by
  obtain ⟨b', off', f, e, _, hx⟩ := h.out hp
  injection e with e
  injection e with e1 e2
  subst e1 e2
  obtain ⟨_, _, _, _, _, h1, h2⟩ := hx p hp
  exact ⟨h1, h2⟩

set_option maxRecDepth 100000 in
set_option maxHeartbeats 4000000 in
theorem specTurn_any (a0 : Option Addr) (n0 c0 : Nat) (a1 : Option Addr) (n1 c1 : Nat) (a2 : Option Addr) (n2 c2 : Nat) (g : GraphD) (b0 b1 b2 : List Nat) (i j : Nat) (w : World) (t0 : SpotL w a0 g.places b0) (t1 : RoadL w a1 g.roads b1) (t2 : BanL w a2 g.bans b2) (e0 : g.places.length = n0) (e1 : g.roads.length = n1) (e2 : g.bans.length = n2) (hP : graphP g) (hi : i < n1) (hj : j < n1) :
    Calls Tryd.prog 34 #[gphV a0 n0 c0 a1 n1 c1 a2 n2 c2, .int .i64 (i : Int), .int .i64 (j : Int)] w fun e w' => e = .returned (.int .i64 (tnB g i j)) ∧ Bel w w' := by
  have H0 : Hid (g.places.length = n0) := e0
  have H1 : Hid (g.roads.length = n1) := e1
  have H2 : Hid (g.bans.length = n2) := e2
  have m2 : n2 ≤ 2000 := by rw [← e2]; exact hP.1.2.2
  have hil : i < g.roads.length := by rw [e1]; exact hi
  have hjl : j < g.roads.length := by rw [e1]; exact hj
  have hro := roadB_out (hP.2.2.1 i hil)
  obtain ⟨p, hp, ep⟩ := inN_nat (n := g.places.length) (x := g.roads[i].fr) (inN_iff.2 hro.1)
  obtain ⟨q, hq, eq⟩ := inN_nat (n := g.places.length) (x := g.roads[i].to) (inN_iff.2 hro.2.1)
  have hrj := roadB_out (hP.2.2.1 j hjl)
  obtain ⟨r, hr, er⟩ := inN_nat (n := g.places.length) (x := g.roads[j].fr) (inN_iff.2 hrj.1)
  obtain ⟨s, hs, es⟩ := inN_nat (n := g.places.length) (x := g.roads[j].to) (inN_iff.2 hrj.2.1)
  have HA : Hid (hdR g i = headOf g.places[p].x g.places[p].y g.places[q].x g.places[q].y) := hdR_at hil hp hq ep eq
  have HB : Hid (hdR g j = headOf g.places[r].x g.places[r].y g.places[s].x g.places[s].y) := hdR_at hjl hr hs er es
  have HPF : Hid ((rdAt g i).fr = (p : Int)) := (by rw [rdAt_eq hil]; exact ep : (rdAt g i).fr = (p : Int))
  have HQT : Hid ((rdAt g j).to = (s : Int)) := (by rw [rdAt_eq hjl]; exact es : (rdAt g j).to = (s : Int))
  have HBP : Hid (bansP g.roads g.bans) := hP.2.2.2
  obtain ⟨W, HW⟩ : ∃ W, Hid (W = w.alloc (.cells #[.slice a0 n0 c0, .slice a1 n1 c1, .slice a2 n2 c2] 33)) := ⟨_, (rfl : w.alloc (.cells #[.slice a0 n0 c0, .slice a1 n1 c1, .slice a2 n2 c2] 33) = _)⟩
  have hBW : Bel w W := by rw [HW.out]; exact bel_alloc (Bel.refl _) _
  have XG : Blk W w.heap.size [.slice a0 n0 c0, .slice a1 n1 c1, .slice a2 n2 c2] := by rw [HW.out]; exact Blk.new w [.slice a0 n0 c0, .slice a1 n1 c1, .slice a2 n2 c2] _
  obtain ⟨R, HR⟩ : ∃ R, Hid (tnB g i j = R) := ⟨_, (rfl : tnB g i j = _)⟩
  rw [HR.out]
  clear hP hro hrj
  go_enter Tryd.func34, Tryd.ntmps34
  go_wp2_with fail
  rw [← HW.out]
  refine (banned_any _ _ _ _ _ _ _ _ _ g.roads g.bans b2 _ _ _ (t2.bel banE hBW) H2.out m2 HBP.out).mono ?_
  rintro e w1 ⟨rfl, hb1⟩
  have hB1 := bel_step hBW hb1
  have XG1 := XG.bel hb1
  rcases Bool.eq_false_or_eq_true (bP (inL g.bans (i : Int) (j : Int))) with hin | hin
  · have HF : Hid (R = -1) := (by rw [← HR.out]; exact tnB_ban hin : R = -1)
    rw [hin]
    go_wp2
    go_ret
    exact ⟨by rw [HF.out]; rfl, hB1⟩
  · have HR1 : Hid (R = tnC g i j) := (by rw [← HR.out]; exact tnB_ok hin : R = tnC g i j)
    rw [hin]
    clear hin XG
    obtain ⟨b, off, f, rfl, hb, hx⟩ := (t1.bel roadE hB1).out hil
    obtain ⟨_, _, _, _, _, _, _, y0, y1, y2, y3, y4, y5⟩ := hx i hil
    obtain ⟨_, _, _, _, _, _, _, z0, z1, z2, z3, z4, z5⟩ := hx j hjl
    rw [ep] at y0
    rw [eq] at y1
    rw [er] at z0
    rw [es] at z1
    obtain ⟨d, Hd⟩ : ∃ d, Hid (d = g.roads[i]) := ⟨_, (rfl : g.roads[i] = _)⟩
    rw [← Hd.out] at y2 y3 y4 y5
    obtain ⟨h, Hh⟩ : ∃ d, Hid (d = g.roads[j]) := ⟨_, (rfl : g.roads[j] = _)⟩
    rw [← Hh.out] at z2 z3 z4 z5
    obtain ⟨b', off', f', rfl, hb', _⟩ := (t0.bel spotE hB1).out hp
    have x1 : w1.cell? ⟨w.heap.size, 1, none⟩ = some (.slice (some ⟨b, off, none⟩) n1 c1) := XG1.cell 1 (by simp)
    have xl := XG1.lt
    obtain ⟨X, HX⟩ : ∃ X, Hid (X = w1.alloc (.cells #[.int .i64 (p : Int), .int .i64 (q : Int), .int .i64 d.way, .int .i64 d.time, .int .i64 d.len, .string d.name] 57)) := ⟨_, (rfl : w1.alloc (.cells #[.int .i64 (p : Int), .int .i64 (q : Int), .int .i64 d.way, .int .i64 d.time, .int .i64 d.len, .string d.name] 57) = _)⟩
    have hbX : Bel w1 X := by rw [HX.out]; exact bel_alloc (Bel.refl _) _
    have XA : Blk X w1.heap.size [.int .i64 (p : Int), .int .i64 (q : Int), .int .i64 d.way, .int .i64 d.time, .int .i64 d.len, .string d.name] := by rw [HX.out]; exact Blk.new w1 [.int .i64 (p : Int), .int .i64 (q : Int), .int .i64 d.way, .int .i64 d.time, .int .i64 d.len, .string d.name] _
    obtain ⟨Y, HY⟩ : ∃ Y, Hid (Y = X.alloc (.cells #[.int .i64 (r : Int), .int .i64 (s : Int), .int .i64 h.way, .int .i64 h.time, .int .i64 h.len, .string h.name] 57)) := ⟨_, (rfl : X.alloc (.cells #[.int .i64 (r : Int), .int .i64 (s : Int), .int .i64 h.way, .int .i64 h.time, .int .i64 h.len, .string h.name] 57) = _)⟩
    have hbY : Bel X Y := by rw [HY.out]; exact bel_alloc (Bel.refl _) _
    have XB : Blk Y X.heap.size [.int .i64 (r : Int), .int .i64 (s : Int), .int .i64 h.way, .int .i64 h.time, .int .i64 h.len, .string h.name] := by rw [HY.out]; exact Blk.new X [.int .i64 (r : Int), .int .i64 (s : Int), .int .i64 h.way, .int .i64 h.time, .int .i64 h.len, .string h.name] _
    have XA' := XA.bel hbY
    have XG2 := XG1.bel hbX
    have XG3 := XG2.bel hbY
    have hBY := bel_step (bel_step hB1 hbX) hbY
    have x1X : X.cell? ⟨w.heap.size, 1, none⟩ = some (.slice (some ⟨b, off, none⟩) n1 c1) := XG2.cell 1 (by simp)
    have xlX := XG2.lt
    have z0X := bel_cellM hbX hb z0
    have z1X := bel_cellM hbX hb z1
    have z2X := bel_cellM hbX hb z2
    have z3X := bel_cellM hbX hb z3
    have z4X := bel_cellM hbX hb z4
    have z5X := bel_cellM hbX hb z5
    have hiI : (i : Int) < (n1 : Int) := by omega
    have hjI : (j : Int) < (n1 : Int) := by omega
    clear hx z0 z1 z2 z3 z4 z5
    go_upto_region 4 with fail
    rw [← HX.out]
    clear y0 y1 y2 y3 y4 y5 x1 xl
    go_upto_region 5 with fail
    rw [← HY.out]
    clear z0X z1X z2X z3X z4X z5X x1X xlX
    have ya : Y.cell? ⟨w1.heap.size, 0, none⟩ = some (.int .i64 (p : Int)) := XA'.cell 0 (by simp)
    have yb : Y.cell? ⟨X.heap.size, 1, none⟩ = some (.int .i64 (s : Int)) := XB.cell 1 (by simp)
    have yla := XA'.lt
    have ylb := XB.lt
    by_cases he : (s : Int) = (p : Int)
    · have hE : ((s : Int) == (p : Int)) = true := by simp [he]
      have HF : Hid (R = 20) := (by rw [HR1.out]; exact tnC_back (by rw [HQT.out, HPF.out]; exact he) : R = 20)
      clear he
      go_wp2
      go_ret
      exact ⟨by rw [HF.out]; rfl, hBY⟩
    · have hE : ((s : Int) == (p : Int)) = false := by simp only [beq_eq_false_iff_ne]; exact he
      obtain ⟨A, HAA⟩ : ∃ A, Hid (hdR g i = A) := ⟨_, (rfl : hdR g i = _)⟩
      obtain ⟨B, HBB⟩ : ∃ B, Hid (hdR g j = B) := ⟨_, (rfl : hdR g j = _)⟩
      have HR2 : Hid (R = wdC A B) := (by rw [HR1.out, ← HAA.out, ← HBB.out]; exact tnC_on (by rw [HQT.out, HPF.out]; exact he) : R = wdC A B)
      have hAd := hdR_bd g i
      have hBd := hdR_bd g j
      rw [HAA.out] at hAd
      rw [HBB.out] at hBd
      obtain ⟨hA0, hA1⟩ := hAd
      obtain ⟨hB0, hB1'⟩ := hBd
      clear he
      obtain ⟨xp, Hxp⟩ : ∃ x, Hid (g.places[p].x = x) := ⟨_, (rfl : g.places[p].x = _)⟩
      obtain ⟨yp, Hyp⟩ : ∃ x, Hid (g.places[p].y = x) := ⟨_, (rfl : g.places[p].y = _)⟩
      obtain ⟨xq, Hxq⟩ : ∃ x, Hid (g.places[q].x = x) := ⟨_, (rfl : g.places[q].x = _)⟩
      obtain ⟨yq, Hyq⟩ : ∃ x, Hid (g.places[q].y = x) := ⟨_, (rfl : g.places[q].y = _)⟩
      obtain ⟨xr, Hxr⟩ : ∃ x, Hid (g.places[r].x = x) := ⟨_, (rfl : g.places[r].x = _)⟩
      obtain ⟨yr, Hyr⟩ : ∃ x, Hid (g.places[r].y = x) := ⟨_, (rfl : g.places[r].y = _)⟩
      obtain ⟨xs, Hxs⟩ : ∃ x, Hid (g.places[s].x = x) := ⟨_, (rfl : g.places[s].x = _)⟩
      obtain ⟨ys, Hys⟩ : ∃ x, Hid (g.places[s].y = x) := ⟨_, (rfl : g.places[s].y = _)⟩
      rw [Hxp.out, Hyp.out, Hxq.out, Hyq.out, HAA.out] at HA
      rw [Hxr.out, Hyr.out, Hxs.out, Hys.out, HBB.out] at HB
      have hS : ∀ w', Bel Y w' → w'.cell? ⟨w.heap.size, 0, none⟩ = some (.slice (some ⟨b', off', none⟩) n0 c0) ∧ w'.cell? ⟨w1.heap.size, 0, none⟩ = some (.int .i64 (p : Int)) ∧ w'.cell? ⟨w1.heap.size, 1, none⟩ = some (.int .i64 (q : Int)) ∧ w'.cell? ⟨X.heap.size, 0, none⟩ = some (.int .i64 (r : Int)) ∧ w'.cell? ⟨X.heap.size, 1, none⟩ = some (.int .i64 (s : Int)) ∧
          (w'.cell? ⟨b', off' + p * 3 + 1, none⟩ = some (.int .i64 xp) ∧ w'.cell? ⟨b', off' + p * 3 + 1 + 1, none⟩ = some (.int .i64 yp)) ∧ (w'.cell? ⟨b', off' + q * 3 + 1, none⟩ = some (.int .i64 xq) ∧ w'.cell? ⟨b', off' + q * 3 + 1 + 1, none⟩ = some (.int .i64 yq)) ∧ (w'.cell? ⟨b', off' + r * 3 + 1, none⟩ = some (.int .i64 xr) ∧ w'.cell? ⟨b', off' + r * 3 + 1 + 1, none⟩ = some (.int .i64 yr)) ∧ (w'.cell? ⟨b', off' + s * 3 + 1, none⟩ = some (.int .i64 xs) ∧ w'.cell? ⟨b', off' + s * 3 + 1 + 1, none⟩ = some (.int .i64 ys)) := fun w' h => by
        have k0 := t0.bel spotE (bel_step hBY h)
        have kp := spot_at k0 hp
        have kq := spot_at k0 hq
        have kr := spot_at k0 hr
        have ks := spot_at k0 hs
        rw [Hxp.out, Hyp.out] at kp
        rw [Hxq.out, Hyq.out] at kq
        rw [Hxr.out, Hyr.out] at kr
        rw [Hxs.out, Hys.out] at ks
        exact ⟨(XG3.bel h).cell 0 (by simp), (XA'.bel h).cell 0 (by simp), (XA'.bel h).cell 1 (by simp), (XB.bel h).cell 0 (by simp), (XB.bel h).cell 1 (by simp), kp, kq, kr, ks⟩
      have hpn : (p : Int) < (n0 : Int) := by rw [← H0.out]; omega
      have hqn : (q : Int) < (n0 : Int) := by rw [← H0.out]; omega
      have hrn : (r : Int) < (n0 : Int) := by rw [← H0.out]; omega
      have hsn : (s : Int) < (n0 : Int) := by rw [← H0.out]; omega
      have hH1 : ∀ w', Calls Tryd.prog 64 #[pt xp yp, pt xq yq] w' fun e w2 => e = .returned (.int .i64 A) ∧ Bel w' w2 := fun w' => by rw [HA.out]; exact specHeading_any _ _ _ _ _
      have hH2 : ∀ w', Calls Tryd.prog 64 #[pt xr yr, pt xs ys] w' fun e w2 => e = .returned (.int .i64 B) ∧ Bel w' w2 := fun w' => by rw [HB.out]; exact specHeading_any _ _ _ _ _
      have g0 : Bel Y Y := Bel.refl _
      clear XG1 XG2 XG3 XA XA' XB
      go_upto_region 7 with fail
      clear ya yb yla ylb
      go_region_held3 (fun w' => Bel Y w') (with_reducible (repeat (first | assumption | exact g0 | refine Bel.drew ?_ | refine bel_then (by assumption) ?_)))
        ((go_at_call 64; refine (hH1 _).mono ?_; rintro e w2 ⟨rfl, hb2⟩))
      have hY2 : Bel Y w2 := by assumption
      go_upto_region 8 with fail
      go_region_held3 (fun w' => Bel Y w') (with_reducible (repeat (first | assumption | exact hY2 | refine Bel.drew ?_ | refine bel_then (by assumption) ?_)))
        ((go_at_call 64; refine (hH2 _).mono ?_; rintro e w3 ⟨rfl, hb3⟩))
      have hY3 : Bel Y w3 := by assumption
      have hBE : Bel w w3 := bel_step hBY hY3
      clear hS hH1 hH2
      by_cases hAn : A < 0
      · have hAb : decide (A < 0) = true := by simp [hAn]
        have HF : Hid (R = _) := HR2.out.trans (wdC_no (.inl hAn))
        go_wp2
        go_ret
        exact ⟨by rw [HF.out]; rfl, hBE⟩
      have hAb : decide (A < 0) = false := by simp; omega
      by_cases hBn : B < 0
      · have hBb : decide (B < 0) = true := by simp [hBn]
        have HF : Hid (R = _) := HR2.out.trans (wdC_no (.inr hBn))
        go_wp2
        go_ret
        exact ⟨by rw [HF.out]; rfl, hBE⟩
      have hBb : decide (B < 0) = false := by simp; omega
      have hn : ¬ (A < 0 ∨ B < 0) := by omega
      have hcs : (B - A + 8) % 8 = 0 ∨ (B - A + 8) % 8 = 1 ∨ (B - A + 8) % 8 = 2 ∨ (B - A + 8) % 8 = 3 ∨ (B - A + 8) % 8 = 4 ∨ (B - A + 8) % 8 = 5 ∨ (B - A + 8) % 8 = 6 ∨ (B - A + 8) % 8 = 7 := by omega
      have htm : ∀ k, (B - A + 8) % 8 = k → Int.tmod (B - A + 8) 8 = k := fun k h => by rw [Int.tmod_eq_emod_of_nonneg (by omega)]; exact h
      rcases hcs with hc | hc | hc | hc | hc | hc | hc | hc
      · have ht := htm _ hc
        have HF : Hid (R = _) := HR2.out.trans (wdC_0 hn (.inl hc))
        clear hc htm
        go_wp2
        go_ret
        exact ⟨by rw [HF.out]; rfl, hBE⟩
      · have ht := htm _ hc
        have HF : Hid (R = _) := HR2.out.trans (wdC_0 hn (.inr (.inl hc)))
        clear hc htm
        go_wp2
        go_ret
        exact ⟨by rw [HF.out]; rfl, hBE⟩
      · have ht := htm _ hc
        have HF : Hid (R = _) := HR2.out.trans (wdC_5 hn (.inl hc))
        clear hc htm
        go_wp2
        go_ret
        exact ⟨by rw [HF.out]; rfl, hBE⟩
      · have ht := htm _ hc
        have HF : Hid (R = _) := HR2.out.trans (wdC_5 hn (.inr (.inl hc)))
        clear hc htm
        go_wp2
        go_ret
        exact ⟨by rw [HF.out]; rfl, hBE⟩
      · have ht := htm _ hc
        have HF : Hid (R = _) := HR2.out.trans (wdC_5 hn (.inr (.inr hc)))
        clear hc htm
        go_wp2
        go_ret
        exact ⟨by rw [HF.out]; rfl, hBE⟩
      · have ht := htm _ hc
        have HF : Hid (R = _) := HR2.out.trans (wdC_3 hn (.inl hc))
        clear hc htm
        go_wp2
        go_ret
        exact ⟨by rw [HF.out]; rfl, hBE⟩
      · have ht := htm _ hc
        have HF : Hid (R = _) := HR2.out.trans (wdC_3 hn (.inr hc))
        clear hc htm
        go_wp2
        go_ret
        exact ⟨by rw [HF.out]; rfl, hBE⟩
      · have ht := htm _ hc
        have HF : Hid (R = _) := HR2.out.trans (wdC_0 hn (.inr (.inr hc)))
        clear hc htm
        go_wp2
        go_ret
        exact ⟨by rw [HF.out]; rfl, hBE⟩
end Go.Proofs.YtponmbjflablcaaDoor

namespace Go.Proofs.YtponmbjflablcaaDoor
open Go.RowKit Go.Maps

theorem l10RoadIs_r (i : Int) (a0 : Option Addr) (n0 c0 : Nat) (a1 : Option Addr) (n1 c1 : Nat) (a2 : Option Addr) (n2 c2 : Nat) (r : Bool) (w : World) (h : inN n1 i = r) :
    Calls Tryd.prog 33 #[gphV a0 n0 c0 a1 n1 c1 a2 n2 c2, .int .i64 i] w fun e w' => e = .returned (.bool r) ∧ Bel w w' := by
  have hB := bel_alloc (Bel.refl w) (.cells #[.slice a0 n0 c0, .slice a1 n1 c1, .slice a2 n2 c2] 33)
  by_cases h0 : 0 ≤ i
  · by_cases h1 : i < (n1 : Int)
    · obtain rfl : r = true := by rw [← h]; exact inN_iff.2 ⟨h0, h1⟩
      clear h
      go_enter Tryd.func33, Tryd.ntmps33
      go_wp2
      go_ret
      exact ⟨rfl, hB⟩
    · obtain rfl : r = false := by rw [← h]; exact inN_not.2 (by omega)
      clear h
      go_enter Tryd.func33, Tryd.ntmps33
      go_wp2
      go_ret
      exact ⟨rfl, hB⟩
  · obtain rfl : r = false := by rw [← h]; exact inN_not.2 (by omega)
    clear h
    go_enter Tryd.func33, Tryd.ntmps33
    go_wp2
    go_ret
    exact ⟨rfl, hB⟩

theorem l10SpotIs_r (i : Int) (a0 : Option Addr) (n0 c0 : Nat) (a1 : Option Addr) (n1 c1 : Nat) (a2 : Option Addr) (n2 c2 : Nat) (r : Bool) (w : World) (h : inN n0 i = r) :
    Calls Tryd.prog 44 #[gphV a0 n0 c0 a1 n1 c1 a2 n2 c2, .int .i64 i] w fun e w' => e = .returned (.bool r) ∧ Bel w w' := by
  have hB := bel_alloc (Bel.refl w) (.cells #[.slice a0 n0 c0, .slice a1 n1 c1, .slice a2 n2 c2] 33)
  by_cases h0 : 0 ≤ i
  · by_cases h1 : i < (n0 : Int)
    · obtain rfl : r = true := by rw [← h]; exact inN_iff.2 ⟨h0, h1⟩
      clear h
      go_enter Tryd.func44, Tryd.ntmps44
      go_wp2
      go_ret
      exact ⟨rfl, hB⟩
    · obtain rfl : r = false := by rw [← h]; exact inN_not.2 (by omega)
      clear h
      go_enter Tryd.func44, Tryd.ntmps44
      go_wp2
      go_ret
      exact ⟨rfl, hB⟩
  · obtain rfl : r = false := by rw [← h]; exact inN_not.2 (by omega)
    clear h
    go_enter Tryd.func44, Tryd.ntmps44
    go_wp2
    go_ret
    exact ⟨rfl, hB⟩

set_option maxRecDepth 100000 in
set_option maxHeartbeats 4000000 in
theorem specTurnTime_any (v : Value) (g : GraphD) (bs : List Nat) (x y : Int) (w : World) (hV : GphV w v g bs) (hQ : GphQ g) :
    Calls Tryd.prog 9 #[v, .int .i64 x, .int .i64 y] w fun e w' => e = .returned (.int .i64 (ttQ g x y)) ∧ Bel w w' := by
  have hV' := hV
  obtain ⟨a0, c0, a1, c1, a2, c2, b0, b1, b2, _, rfl, t0, t1, t2⟩ := hV
  obtain ⟨n0, H0⟩ : ∃ n, Hid (g.places.length = n) := ⟨_, (rfl : g.places.length = _)⟩
  obtain ⟨n1, H1⟩ : ∃ n, Hid (g.roads.length = n) := ⟨_, (rfl : g.roads.length = _)⟩
  obtain ⟨n2, H2⟩ : ∃ n, Hid (g.bans.length = n) := ⟨_, (rfl : g.bans.length = _)⟩
  rw [H0.out, H1.out, H2.out] at hV' ⊢
  obtain ⟨W, HW⟩ : ∃ W, Hid (W = w.alloc (.cells #[.slice a0 n0 c0, .slice a1 n1 c1, .slice a2 n2 c2] 33)) := ⟨_, (rfl : w.alloc (.cells #[.slice a0 n0 c0, .slice a1 n1 c1, .slice a2 n2 c2] 33) = _)⟩
  have hBW : Bel w W := by rw [HW.out]; exact bel_alloc (Bel.refl _) _
  have XG : Blk W w.heap.size [.slice a0 n0 c0, .slice a1 n1 c1, .slice a2 n2 c2] := by rw [HW.out]; exact Blk.new w [.slice a0 n0 c0, .slice a1 n1 c1, .slice a2 n2 c2] _
  obtain ⟨R, HR⟩ : ∃ R, Hid (ttQ g x y = R) := ⟨_, (rfl : ttQ g x y = _)⟩
  rw [HR.out]
  have hS : ∀ w', Bel W w' → w'.cell? ⟨w.heap.size, 0, none⟩ = some (.slice a0 n0 c0) ∧ w'.cell? ⟨w.heap.size, 1, none⟩ = some (.slice a1 n1 c1) ∧ w'.cell? ⟨w.heap.size, 2, none⟩ = some (.slice a2 n2 c2) := fun w' h => ⟨(XG.bel h).cell 0 (by simp), (XG.bel h).cell 1 (by simp), (XG.bel h).cell 2 (by simp)⟩
  have g0 : Bel W W := Bel.refl _
  have hGr : ∀ r, bP (graphP g) = r → ∀ w', Bel W w' → Calls Tryd.prog 32 #[gphV a0 n0 c0 a1 n1 c1 a2 n2 c2] w' fun e w2 => e = .returned (.bool r) ∧ Bel w' w2 := fun r hr w' h => by
    rw [← hr]; exact specGraphOk_any _ g bs _ (hV'.bel (bel_step hBW h)) hQ
  clear XG
  by_cases hP : graphP g
  rotate_left
  · have HF : Hid (R = -1) := (by rw [← HR.out]; exact ttQ_no (fun h => hP h.1) : R = -1)
    have hG := hGr false (bP_false hP)
    clear hGr
    go_enter Tryd.func9, Tryd.ntmps9
    go_wp2
    rw [← HW.out]
    refine wp_region_noPanic ?_
    refine wp_region_held_drew (S := fun w' => Bel W w') (by kernel_rfl) (Bel.drew g0) (fun hHeld => ?_)
    refine wpAnyH_take (i := 0) (oi := { dst := some 7, op := Go.Op.load 33 (Go.Operand.tmp 3), type := 33, pos := "l10_paths.go:34", after := #[], guard := none }) (v := ?vab0) rfl (by kernel_rfl) (by kernel_rfl) (by kernel_rfl) (fun _ _ _ h => h) (Or.inl ⟨by rfl, ?hab0⟩) hHeld ?rab0
    case hab0 => (intro w hSw; (try dsimp only at hSw); go_simp; try with_reducible rfl)
    try simp only [Act.put, List.setIfInBounds_toArray, List.set_cons_zero, List.set_cons_succ]
    refine wpAnyH_ready (rs := [1]) (by kernel_rfl) (by simp) ?_
    refine AllReadyH.cons (o := { dst := some 8, op := Go.Op.call { callee := Go.Callee.value (Go.Operand.func 32), args := #[Go.Operand.tmp 7], argTypes := #[33] }, type := 4, pos := "l10_paths.go:34", after := #[{ on := 0, ground := Go.Ground.data }], guard := none }) rfl (fun K hK => ?_) AllReadyH.nil
    go_simp
    refine (hG _ hHeld).mono ?_
    rintro e w1 ⟨rfl, hbk⟩
    go_wp2_with fail
    refine hK.out _ _ (bel_step hHeld hbk) (fun hHeld' => ?_)
    clear hK K hHeld
    have hHeld := hHeld'
    clear hHeld'
    try simp only [Act.put, List.setIfInBounds_toArray, List.set_cons_zero, List.set_cons_succ]
    refine wpAnyH_take (i := 2) (oi := { dst := some 9, op := Go.Op.unOp Go.UnOp.not 4 (Go.Operand.tmp 8), type := 4, pos := "l10_paths.go:34", after := #[{ on := 1, ground := Go.Ground.data }], guard := none }) (v := ?vab2) rfl (by kernel_rfl) (by kernel_rfl) (by kernel_rfl) (fun _ _ _ h => h) (Or.inl ⟨by rfl, ?hab2⟩) hHeld ?rab2
    case hab2 => (intro w hSw; (try dsimp only at hSw); go_simp; try with_reducible rfl)
    try simp only [Act.put, List.setIfInBounds_toArray, List.set_cons_zero, List.set_cons_succ]
    refine wpAnyH_take (i := 3) (oi := { dst := some 10, op := Go.Op.move (Go.Operand.tmp 9), type := 4, pos := "l10_paths.go:34", after := #[{ on := 2, ground := Go.Ground.data }, { on := 1, ground := Go.Ground.chain }], guard := none }) (v := ?vab3) rfl (by kernel_rfl) (by kernel_rfl) (by kernel_rfl) (fun _ _ _ h => h) (Or.inl ⟨by rfl, ?hab3⟩) hHeld ?rab3
    case hab3 => (intro w hSw; (try dsimp only at hSw); go_simp; try with_reducible rfl)
    try simp only [Act.put, List.setIfInBounds_toArray, List.set_cons_zero, List.set_cons_succ]
    refine wpAnyH_take (i := 4) (oi := { dst := some 11, op := Go.Op.load 33 (Go.Operand.tmp 3), type := 33, pos := "l10_paths.go:34", after := #[{ on := 3, ground := Go.Ground.guard }], guard := some (3, false) }) (v := undef) rfl (by kernel_rfl) (by kernel_rfl) (by kernel_rfl) (fun _ _ _ h => h) (Or.inr ⟨by rfl, rfl⟩) hHeld ?_
    try simp only [Act.put, List.setIfInBounds_toArray, List.set_cons_zero, List.set_cons_succ]
    refine wpAnyH_take (i := 5) (oi := { dst := some 12, op := Go.Op.move (Go.Operand.tmp 1), type := 2, pos := "l10_paths.go:34", after := #[{ on := 3, ground := Go.Ground.guard }], guard := some (3, false) }) (v := undef) rfl (by kernel_rfl) (by kernel_rfl) (by kernel_rfl) (fun _ _ _ h => h) (Or.inr ⟨by rfl, rfl⟩) hHeld ?_
    try simp only [Act.put, List.setIfInBounds_toArray, List.set_cons_zero, List.set_cons_succ]
    refine wpAnyH_take (i := 6) (oi := { dst := some 13, op := Go.Op.call { callee := Go.Callee.value (Go.Operand.func 33), args := #[Go.Operand.tmp 11, Go.Operand.tmp 12], argTypes := #[33, 2] }, type := 4, pos := "l10_paths.go:34", after := #[{ on := 4, ground := Go.Ground.data }, { on := 5, ground := Go.Ground.data }, { on := 3, ground := Go.Ground.chain }, { on := 3, ground := Go.Ground.guard }], guard := some (3, false) }) (v := undef) rfl (by kernel_rfl) (by kernel_rfl) (by kernel_rfl) (fun _ _ _ h => h) (Or.inr ⟨by rfl, rfl⟩) hHeld ?_
    try simp only [Act.put, List.setIfInBounds_toArray, List.set_cons_zero, List.set_cons_succ]
    refine wpAnyH_take (i := 7) (oi := { dst := some 14, op := Go.Op.unOp Go.UnOp.not 4 (Go.Operand.tmp 13), type := 4, pos := "l10_paths.go:34", after := #[{ on := 6, ground := Go.Ground.data }, { on := 3, ground := Go.Ground.guard }], guard := some (3, false) }) (v := undef) rfl (by kernel_rfl) (by kernel_rfl) (by kernel_rfl) (fun _ _ _ h => h) (Or.inr ⟨by rfl, rfl⟩) hHeld ?_
    try simp only [Act.put, List.setIfInBounds_toArray, List.set_cons_zero, List.set_cons_succ]
    refine wpAnyH_take (i := 8) (oi := { dst := some 15, op := Go.Op.pick (Go.Operand.tmp 10) (Go.Operand.const (Go.Value.bool true)) (Go.Operand.tmp 14), type := 4, pos := "l10_paths.go:34", after := #[{ on := 3, ground := Go.Ground.data }, { on := 7, ground := Go.Ground.data }], guard := none }) (v := ?vab8) rfl (by kernel_rfl) (by kernel_rfl) (by kernel_rfl) (fun _ _ _ h => h) (Or.inl ⟨by rfl, ?hab8⟩) hHeld ?rab8
    case hab8 => (intro w hSw; (try dsimp only at hSw); go_simp; try with_reducible rfl)
    try simp only [Act.put, List.setIfInBounds_toArray, List.set_cons_zero, List.set_cons_succ]
    refine wpAnyH_take (i := 9) (oi := { dst := some 16, op := Go.Op.move (Go.Operand.tmp 15), type := 4, pos := "l10_paths.go:34", after := #[{ on := 8, ground := Go.Ground.data }, { on := 6, ground := Go.Ground.chain }], guard := none }) (v := ?vab9) rfl (by kernel_rfl) (by kernel_rfl) (by kernel_rfl) (fun _ _ _ h => h) (Or.inl ⟨by rfl, ?hab9⟩) hHeld ?rab9
    case hab9 => (intro w hSw; (try dsimp only at hSw); go_simp; try with_reducible rfl)
    try simp only [Act.put, List.setIfInBounds_toArray, List.set_cons_zero, List.set_cons_succ]
    refine wpAnyH_take (i := 10) (oi := { dst := some 17, op := Go.Op.load 33 (Go.Operand.tmp 3), type := 33, pos := "l10_paths.go:34", after := #[{ on := 9, ground := Go.Ground.guard }], guard := some (9, false) }) (v := undef) rfl (by kernel_rfl) (by kernel_rfl) (by kernel_rfl) (fun _ _ _ h => h) (Or.inr ⟨by rfl, rfl⟩) hHeld ?_
    try simp only [Act.put, List.setIfInBounds_toArray, List.set_cons_zero, List.set_cons_succ]
    refine wpAnyH_take (i := 11) (oi := { dst := some 18, op := Go.Op.move (Go.Operand.tmp 2), type := 2, pos := "l10_paths.go:34", after := #[{ on := 9, ground := Go.Ground.guard }], guard := some (9, false) }) (v := undef) rfl (by kernel_rfl) (by kernel_rfl) (by kernel_rfl) (fun _ _ _ h => h) (Or.inr ⟨by rfl, rfl⟩) hHeld ?_
    try simp only [Act.put, List.setIfInBounds_toArray, List.set_cons_zero, List.set_cons_succ]
    refine wpAnyH_take (i := 12) (oi := { dst := some 19, op := Go.Op.call { callee := Go.Callee.value (Go.Operand.func 33), args := #[Go.Operand.tmp 17, Go.Operand.tmp 18], argTypes := #[33, 2] }, type := 4, pos := "l10_paths.go:34", after := #[{ on := 10, ground := Go.Ground.data }, { on := 11, ground := Go.Ground.data }, { on := 9, ground := Go.Ground.chain }, { on := 9, ground := Go.Ground.guard }], guard := some (9, false) }) (v := undef) rfl (by kernel_rfl) (by kernel_rfl) (by kernel_rfl) (fun _ _ _ h => h) (Or.inr ⟨by rfl, rfl⟩) hHeld ?_
    try simp only [Act.put, List.setIfInBounds_toArray, List.set_cons_zero, List.set_cons_succ]
    refine wpAnyH_take (i := 13) (oi := { dst := some 20, op := Go.Op.unOp Go.UnOp.not 4 (Go.Operand.tmp 19), type := 4, pos := "l10_paths.go:34", after := #[{ on := 12, ground := Go.Ground.data }, { on := 9, ground := Go.Ground.guard }], guard := some (9, false) }) (v := undef) rfl (by kernel_rfl) (by kernel_rfl) (by kernel_rfl) (fun _ _ _ h => h) (Or.inr ⟨by rfl, rfl⟩) hHeld ?_
    try simp only [Act.put, List.setIfInBounds_toArray, List.set_cons_zero, List.set_cons_succ]
    refine wpAnyH_take (i := 14) (oi := { dst := some 21, op := Go.Op.pick (Go.Operand.tmp 16) (Go.Operand.const (Go.Value.bool true)) (Go.Operand.tmp 20), type := 4, pos := "l10_paths.go:34", after := #[{ on := 9, ground := Go.Ground.data }, { on := 13, ground := Go.Ground.data }], guard := none }) (v := ?vab14) rfl (by kernel_rfl) (by kernel_rfl) (by kernel_rfl) (fun _ _ _ h => h) (Or.inl ⟨by rfl, ?hab14⟩) hHeld ?rab14
    case hab14 => (intro w hSw; (try dsimp only at hSw); go_simp; try with_reducible rfl)
    try simp only [Act.put, List.setIfInBounds_toArray, List.set_cons_zero, List.set_cons_succ]
    refine wpAnyH_take (i := 15) (oi := { dst := some 22, op := Go.Op.move (Go.Operand.tmp 21), type := 4, pos := "l10_paths.go:34", after := #[{ on := 14, ground := Go.Ground.data }, { on := 12, ground := Go.Ground.chain }], guard := none }) (v := ?vab15) rfl (by kernel_rfl) (by kernel_rfl) (by kernel_rfl) (fun _ _ _ h => h) (Or.inl ⟨by rfl, ?hab15⟩) hHeld ?rab15
    case hab15 => (intro w hSw; (try dsimp only at hSw); go_simp; try with_reducible rfl)
    try simp only [Act.put, List.setIfInBounds_toArray, List.set_cons_zero, List.set_cons_succ]
    refine wpAnyH_take (i := 16) (oi := { dst := some 23, op := Go.Op.fieldAddr 33 (Go.Operand.tmp 3) 1, type := 0, pos := "l10_paths.go:34", after := #[{ on := 15, ground := Go.Ground.guard }], guard := some (15, false) }) (v := undef) rfl (by kernel_rfl) (by kernel_rfl) (by kernel_rfl) (fun _ _ _ h => h) (Or.inr ⟨by rfl, rfl⟩) hHeld ?_
    try simp only [Act.put, List.setIfInBounds_toArray, List.set_cons_zero, List.set_cons_succ]
    refine wpAnyH_take (i := 17) (oi := { dst := some 24, op := Go.Op.load 30 (Go.Operand.tmp 23), type := 30, pos := "l10_paths.go:34", after := #[{ on := 16, ground := Go.Ground.data }, { on := 15, ground := Go.Ground.guard }], guard := some (15, false) }) (v := undef) rfl (by kernel_rfl) (by kernel_rfl) (by kernel_rfl) (fun _ _ _ h => h) (Or.inr ⟨by rfl, rfl⟩) hHeld ?_
    try simp only [Act.put, List.setIfInBounds_toArray, List.set_cons_zero, List.set_cons_succ]
    refine wpAnyH_take (i := 18) (oi := { dst := some 25, op := Go.Op.move (Go.Operand.tmp 1), type := 2, pos := "l10_paths.go:34", after := #[{ on := 15, ground := Go.Ground.guard }], guard := some (15, false) }) (v := undef) rfl (by kernel_rfl) (by kernel_rfl) (by kernel_rfl) (fun _ _ _ h => h) (Or.inr ⟨by rfl, rfl⟩) hHeld ?_
    try simp only [Act.put, List.setIfInBounds_toArray, List.set_cons_zero, List.set_cons_succ]
    refine wpAnyH_take (i := 19) (oi := { dst := some 26, op := Go.Op.indexAddr 30 (Go.Operand.tmp 24) (Go.Operand.tmp 25), type := 0, pos := "l10_paths.go:34", after := #[{ on := 17, ground := Go.Ground.data }, { on := 18, ground := Go.Ground.data }, { on := 15, ground := Go.Ground.guard }], guard := some (15, false) }) (v := undef) rfl (by kernel_rfl) (by kernel_rfl) (by kernel_rfl) (fun _ _ _ h => h) (Or.inr ⟨by rfl, rfl⟩) hHeld ?_
    try simp only [Act.put, List.setIfInBounds_toArray, List.set_cons_zero, List.set_cons_succ]
    refine wpAnyH_take (i := 20) (oi := { dst := some 27, op := Go.Op.fieldAddr 57 (Go.Operand.tmp 26) 1, type := 0, pos := "l10_paths.go:34", after := #[{ on := 19, ground := Go.Ground.data }, { on := 15, ground := Go.Ground.guard }], guard := some (15, false) }) (v := undef) rfl (by kernel_rfl) (by kernel_rfl) (by kernel_rfl) (fun _ _ _ h => h) (Or.inr ⟨by rfl, rfl⟩) hHeld ?_
    try simp only [Act.put, List.setIfInBounds_toArray, List.set_cons_zero, List.set_cons_succ]
    refine wpAnyH_take (i := 21) (oi := { dst := some 28, op := Go.Op.load 2 (Go.Operand.tmp 27), type := 2, pos := "l10_paths.go:34", after := #[{ on := 20, ground := Go.Ground.data }, { on := 15, ground := Go.Ground.guard }], guard := some (15, false) }) (v := undef) rfl (by kernel_rfl) (by kernel_rfl) (by kernel_rfl) (fun _ _ _ h => h) (Or.inr ⟨by rfl, rfl⟩) hHeld ?_
    try simp only [Act.put, List.setIfInBounds_toArray, List.set_cons_zero, List.set_cons_succ]
    refine wpAnyH_take (i := 22) (oi := { dst := some 29, op := Go.Op.fieldAddr 33 (Go.Operand.tmp 3) 1, type := 0, pos := "l10_paths.go:34", after := #[{ on := 15, ground := Go.Ground.guard }], guard := some (15, false) }) (v := undef) rfl (by kernel_rfl) (by kernel_rfl) (by kernel_rfl) (fun _ _ _ h => h) (Or.inr ⟨by rfl, rfl⟩) hHeld ?_
    try simp only [Act.put, List.setIfInBounds_toArray, List.set_cons_zero, List.set_cons_succ]
    refine wpAnyH_take (i := 23) (oi := { dst := some 30, op := Go.Op.load 30 (Go.Operand.tmp 29), type := 30, pos := "l10_paths.go:34", after := #[{ on := 22, ground := Go.Ground.data }, { on := 15, ground := Go.Ground.guard }], guard := some (15, false) }) (v := undef) rfl (by kernel_rfl) (by kernel_rfl) (by kernel_rfl) (fun _ _ _ h => h) (Or.inr ⟨by rfl, rfl⟩) hHeld ?_
    try simp only [Act.put, List.setIfInBounds_toArray, List.set_cons_zero, List.set_cons_succ]
    refine wpAnyH_take (i := 24) (oi := { dst := some 31, op := Go.Op.move (Go.Operand.tmp 2), type := 2, pos := "l10_paths.go:34", after := #[{ on := 15, ground := Go.Ground.guard }], guard := some (15, false) }) (v := undef) rfl (by kernel_rfl) (by kernel_rfl) (by kernel_rfl) (fun _ _ _ h => h) (Or.inr ⟨by rfl, rfl⟩) hHeld ?_
    try simp only [Act.put, List.setIfInBounds_toArray, List.set_cons_zero, List.set_cons_succ]
    refine wpAnyH_take (i := 25) (oi := { dst := some 32, op := Go.Op.indexAddr 30 (Go.Operand.tmp 30) (Go.Operand.tmp 31), type := 0, pos := "l10_paths.go:34", after := #[{ on := 23, ground := Go.Ground.data }, { on := 24, ground := Go.Ground.data }, { on := 15, ground := Go.Ground.guard }], guard := some (15, false) }) (v := undef) rfl (by kernel_rfl) (by kernel_rfl) (by kernel_rfl) (fun _ _ _ h => h) (Or.inr ⟨by rfl, rfl⟩) hHeld ?_
    try simp only [Act.put, List.setIfInBounds_toArray, List.set_cons_zero, List.set_cons_succ]
    refine wpAnyH_take (i := 26) (oi := { dst := some 33, op := Go.Op.fieldAddr 57 (Go.Operand.tmp 32) 0, type := 0, pos := "l10_paths.go:34", after := #[{ on := 25, ground := Go.Ground.data }, { on := 15, ground := Go.Ground.guard }], guard := some (15, false) }) (v := undef) rfl (by kernel_rfl) (by kernel_rfl) (by kernel_rfl) (fun _ _ _ h => h) (Or.inr ⟨by rfl, rfl⟩) hHeld ?_
    try simp only [Act.put, List.setIfInBounds_toArray, List.set_cons_zero, List.set_cons_succ]
    refine wpAnyH_take (i := 27) (oi := { dst := some 34, op := Go.Op.load 2 (Go.Operand.tmp 33), type := 2, pos := "l10_paths.go:34", after := #[{ on := 26, ground := Go.Ground.data }, { on := 15, ground := Go.Ground.guard }], guard := some (15, false) }) (v := undef) rfl (by kernel_rfl) (by kernel_rfl) (by kernel_rfl) (fun _ _ _ h => h) (Or.inr ⟨by rfl, rfl⟩) hHeld ?_
    try simp only [Act.put, List.setIfInBounds_toArray, List.set_cons_zero, List.set_cons_succ]
    refine wpAnyH_take (i := 28) (oi := { dst := some 35, op := Go.Op.binOp Go.BinOp.neq 2 (Go.Operand.tmp 28) (Go.Operand.tmp 34) 2, type := 4, pos := "l10_paths.go:34", after := #[{ on := 21, ground := Go.Ground.data }, { on := 27, ground := Go.Ground.data }, { on := 15, ground := Go.Ground.guard }], guard := some (15, false) }) (v := undef) rfl (by kernel_rfl) (by kernel_rfl) (by kernel_rfl) (fun _ _ _ h => h) (Or.inr ⟨by rfl, rfl⟩) hHeld ?_
    try simp only [Act.put, List.setIfInBounds_toArray, List.set_cons_zero, List.set_cons_succ]
    refine wpAnyH_take (i := 29) (oi := { dst := some 36, op := Go.Op.pick (Go.Operand.tmp 22) (Go.Operand.const (Go.Value.bool true)) (Go.Operand.tmp 35), type := 4, pos := "l10_paths.go:34", after := #[{ on := 15, ground := Go.Ground.data }, { on := 28, ground := Go.Ground.data }], guard := none }) (v := ?vab29) rfl (by kernel_rfl) (by kernel_rfl) (by kernel_rfl) (fun _ _ _ h => h) (Or.inl ⟨by rfl, ?hab29⟩) hHeld ?rab29
    case hab29 => (intro w hSw; (try dsimp only at hSw); go_simp; try with_reducible rfl)
    try simp only [Act.put, List.setIfInBounds_toArray, List.set_cons_zero, List.set_cons_succ]
    refine wpAnyH_done (by kernel_rfl) ?_ _
    refine NoPanic.normal ?_
    go_wp2
    go_ret
    exact ⟨by rw [HF.out]; rfl, bel_step hBW hHeld⟩
  have HP : Hid (graphP g) := hP
  have hG := hGr true (bP_true hP)
  clear hGr hP
  rcases Bool.eq_false_or_eq_true (inN n1 x) with hx | hx
  rotate_left
  · have HF : Hid (R = -1) := (by rw [← HR.out]; exact ttQ_no (fun h => by have := h.2.1; rw [H1.out, hx] at this; cases this) : R = -1)
    go_enter Tryd.func9, Tryd.ntmps9
    go_wp2
    rw [← HW.out]
    refine wp_region_noPanic ?_
    refine wp_region_held_drew (S := fun w' => Bel W w') (by kernel_rfl) (Bel.drew g0) (fun hHeld => ?_)
    refine wpAnyH_take (i := 0) (oi := { dst := some 7, op := Go.Op.load 33 (Go.Operand.tmp 3), type := 33, pos := "l10_paths.go:34", after := #[], guard := none }) (v := ?vac0) rfl (by kernel_rfl) (by kernel_rfl) (by kernel_rfl) (fun _ _ _ h => h) (Or.inl ⟨by rfl, ?hac0⟩) hHeld ?rac0
    case hac0 => (intro w hSw; (try dsimp only at hSw); go_simp; try with_reducible rfl)
    try simp only [Act.put, List.setIfInBounds_toArray, List.set_cons_zero, List.set_cons_succ]
    refine wpAnyH_ready (rs := [1]) (by kernel_rfl) (by simp) ?_
    refine AllReadyH.cons (o := { dst := some 8, op := Go.Op.call { callee := Go.Callee.value (Go.Operand.func 32), args := #[Go.Operand.tmp 7], argTypes := #[33] }, type := 4, pos := "l10_paths.go:34", after := #[{ on := 0, ground := Go.Ground.data }], guard := none }) rfl (fun K hK => ?_) AllReadyH.nil
    go_simp
    refine (hG _ hHeld).mono ?_
    rintro e w1 ⟨rfl, hbk⟩
    go_wp2_with fail
    refine hK.out _ _ (bel_step hHeld hbk) (fun hHeld' => ?_)
    clear hK K hHeld
    have hHeld := hHeld'
    clear hHeld'
    try simp only [Act.put, List.setIfInBounds_toArray, List.set_cons_zero, List.set_cons_succ]
    refine wpAnyH_take (i := 2) (oi := { dst := some 9, op := Go.Op.unOp Go.UnOp.not 4 (Go.Operand.tmp 8), type := 4, pos := "l10_paths.go:34", after := #[{ on := 1, ground := Go.Ground.data }], guard := none }) (v := ?vac2) rfl (by kernel_rfl) (by kernel_rfl) (by kernel_rfl) (fun _ _ _ h => h) (Or.inl ⟨by rfl, ?hac2⟩) hHeld ?rac2
    case hac2 => (intro w hSw; (try dsimp only at hSw); go_simp; try with_reducible rfl)
    try simp only [Act.put, List.setIfInBounds_toArray, List.set_cons_zero, List.set_cons_succ]
    refine wpAnyH_take (i := 3) (oi := { dst := some 10, op := Go.Op.move (Go.Operand.tmp 9), type := 4, pos := "l10_paths.go:34", after := #[{ on := 2, ground := Go.Ground.data }, { on := 1, ground := Go.Ground.chain }], guard := none }) (v := ?vac3) rfl (by kernel_rfl) (by kernel_rfl) (by kernel_rfl) (fun _ _ _ h => h) (Or.inl ⟨by rfl, ?hac3⟩) hHeld ?rac3
    case hac3 => (intro w hSw; (try dsimp only at hSw); go_simp; try with_reducible rfl)
    try simp only [Act.put, List.setIfInBounds_toArray, List.set_cons_zero, List.set_cons_succ]
    refine wpAnyH_take (i := 4) (oi := { dst := some 11, op := Go.Op.load 33 (Go.Operand.tmp 3), type := 33, pos := "l10_paths.go:34", after := #[{ on := 3, ground := Go.Ground.guard }], guard := some (3, false) }) (v := ?vac4) rfl (by kernel_rfl) (by kernel_rfl) (by kernel_rfl) (fun _ _ _ h => h) (Or.inl ⟨by rfl, ?hac4⟩) hHeld ?rac4
    case hac4 => (intro w hSw; (try dsimp only at hSw); go_simp; try with_reducible rfl)
    try simp only [Act.put, List.setIfInBounds_toArray, List.set_cons_zero, List.set_cons_succ]
    refine wpAnyH_take (i := 5) (oi := { dst := some 12, op := Go.Op.move (Go.Operand.tmp 1), type := 2, pos := "l10_paths.go:34", after := #[{ on := 3, ground := Go.Ground.guard }], guard := some (3, false) }) (v := ?vac5) rfl (by kernel_rfl) (by kernel_rfl) (by kernel_rfl) (fun _ _ _ h => h) (Or.inl ⟨by rfl, ?hac5⟩) hHeld ?rac5
    case hac5 => (intro w hSw; (try dsimp only at hSw); go_simp; try with_reducible rfl)
    try simp only [Act.put, List.setIfInBounds_toArray, List.set_cons_zero, List.set_cons_succ]
    refine wpAnyH_ready (rs := [6]) (by kernel_rfl) (by simp) ?_
    refine AllReadyH.cons (o := { dst := some 13, op := Go.Op.call { callee := Go.Callee.value (Go.Operand.func 33), args := #[Go.Operand.tmp 11, Go.Operand.tmp 12], argTypes := #[33, 2] }, type := 4, pos := "l10_paths.go:34", after := #[{ on := 4, ground := Go.Ground.data }, { on := 5, ground := Go.Ground.data }, { on := 3, ground := Go.Ground.chain }, { on := 3, ground := Go.Ground.guard }], guard := some (3, false) }) rfl (fun K hK => ?_) AllReadyH.nil
    go_simp
    refine (l10RoadIs_r _ _ _ _ _ _ _ _ _ _ false _ hx).mono ?_
    rintro e w2 ⟨rfl, hbk⟩
    go_wp2_with fail
    refine hK.out _ _ (bel_step hHeld hbk) (fun hHeld' => ?_)
    clear hK K hHeld
    have hHeld := hHeld'
    clear hHeld'
    try simp only [Act.put, List.setIfInBounds_toArray, List.set_cons_zero, List.set_cons_succ]
    refine wpAnyH_take (i := 7) (oi := { dst := some 14, op := Go.Op.unOp Go.UnOp.not 4 (Go.Operand.tmp 13), type := 4, pos := "l10_paths.go:34", after := #[{ on := 6, ground := Go.Ground.data }, { on := 3, ground := Go.Ground.guard }], guard := some (3, false) }) (v := ?vac7) rfl (by kernel_rfl) (by kernel_rfl) (by kernel_rfl) (fun _ _ _ h => h) (Or.inl ⟨by rfl, ?hac7⟩) hHeld ?rac7
    case hac7 => (intro w hSw; (try dsimp only at hSw); go_simp; try with_reducible rfl)
    try simp only [Act.put, List.setIfInBounds_toArray, List.set_cons_zero, List.set_cons_succ]
    refine wpAnyH_take (i := 8) (oi := { dst := some 15, op := Go.Op.pick (Go.Operand.tmp 10) (Go.Operand.const (Go.Value.bool true)) (Go.Operand.tmp 14), type := 4, pos := "l10_paths.go:34", after := #[{ on := 3, ground := Go.Ground.data }, { on := 7, ground := Go.Ground.data }], guard := none }) (v := ?vac8) rfl (by kernel_rfl) (by kernel_rfl) (by kernel_rfl) (fun _ _ _ h => h) (Or.inl ⟨by rfl, ?hac8⟩) hHeld ?rac8
    case hac8 => (intro w hSw; (try dsimp only at hSw); go_simp; try with_reducible rfl)
    try simp only [Act.put, List.setIfInBounds_toArray, List.set_cons_zero, List.set_cons_succ]
    refine wpAnyH_take (i := 9) (oi := { dst := some 16, op := Go.Op.move (Go.Operand.tmp 15), type := 4, pos := "l10_paths.go:34", after := #[{ on := 8, ground := Go.Ground.data }, { on := 6, ground := Go.Ground.chain }], guard := none }) (v := ?vac9) rfl (by kernel_rfl) (by kernel_rfl) (by kernel_rfl) (fun _ _ _ h => h) (Or.inl ⟨by rfl, ?hac9⟩) hHeld ?rac9
    case hac9 => (intro w hSw; (try dsimp only at hSw); go_simp; try with_reducible rfl)
    try simp only [Act.put, List.setIfInBounds_toArray, List.set_cons_zero, List.set_cons_succ]
    refine wpAnyH_take (i := 10) (oi := { dst := some 17, op := Go.Op.load 33 (Go.Operand.tmp 3), type := 33, pos := "l10_paths.go:34", after := #[{ on := 9, ground := Go.Ground.guard }], guard := some (9, false) }) (v := undef) rfl (by kernel_rfl) (by kernel_rfl) (by kernel_rfl) (fun _ _ _ h => h) (Or.inr ⟨by rfl, rfl⟩) hHeld ?_
    try simp only [Act.put, List.setIfInBounds_toArray, List.set_cons_zero, List.set_cons_succ]
    refine wpAnyH_take (i := 11) (oi := { dst := some 18, op := Go.Op.move (Go.Operand.tmp 2), type := 2, pos := "l10_paths.go:34", after := #[{ on := 9, ground := Go.Ground.guard }], guard := some (9, false) }) (v := undef) rfl (by kernel_rfl) (by kernel_rfl) (by kernel_rfl) (fun _ _ _ h => h) (Or.inr ⟨by rfl, rfl⟩) hHeld ?_
    try simp only [Act.put, List.setIfInBounds_toArray, List.set_cons_zero, List.set_cons_succ]
    refine wpAnyH_take (i := 12) (oi := { dst := some 19, op := Go.Op.call { callee := Go.Callee.value (Go.Operand.func 33), args := #[Go.Operand.tmp 17, Go.Operand.tmp 18], argTypes := #[33, 2] }, type := 4, pos := "l10_paths.go:34", after := #[{ on := 10, ground := Go.Ground.data }, { on := 11, ground := Go.Ground.data }, { on := 9, ground := Go.Ground.chain }, { on := 9, ground := Go.Ground.guard }], guard := some (9, false) }) (v := undef) rfl (by kernel_rfl) (by kernel_rfl) (by kernel_rfl) (fun _ _ _ h => h) (Or.inr ⟨by rfl, rfl⟩) hHeld ?_
    try simp only [Act.put, List.setIfInBounds_toArray, List.set_cons_zero, List.set_cons_succ]
    refine wpAnyH_take (i := 13) (oi := { dst := some 20, op := Go.Op.unOp Go.UnOp.not 4 (Go.Operand.tmp 19), type := 4, pos := "l10_paths.go:34", after := #[{ on := 12, ground := Go.Ground.data }, { on := 9, ground := Go.Ground.guard }], guard := some (9, false) }) (v := undef) rfl (by kernel_rfl) (by kernel_rfl) (by kernel_rfl) (fun _ _ _ h => h) (Or.inr ⟨by rfl, rfl⟩) hHeld ?_
    try simp only [Act.put, List.setIfInBounds_toArray, List.set_cons_zero, List.set_cons_succ]
    refine wpAnyH_take (i := 14) (oi := { dst := some 21, op := Go.Op.pick (Go.Operand.tmp 16) (Go.Operand.const (Go.Value.bool true)) (Go.Operand.tmp 20), type := 4, pos := "l10_paths.go:34", after := #[{ on := 9, ground := Go.Ground.data }, { on := 13, ground := Go.Ground.data }], guard := none }) (v := ?vac14) rfl (by kernel_rfl) (by kernel_rfl) (by kernel_rfl) (fun _ _ _ h => h) (Or.inl ⟨by rfl, ?hac14⟩) hHeld ?rac14
    case hac14 => (intro w hSw; (try dsimp only at hSw); go_simp; try with_reducible rfl)
    try simp only [Act.put, List.setIfInBounds_toArray, List.set_cons_zero, List.set_cons_succ]
    refine wpAnyH_take (i := 15) (oi := { dst := some 22, op := Go.Op.move (Go.Operand.tmp 21), type := 4, pos := "l10_paths.go:34", after := #[{ on := 14, ground := Go.Ground.data }, { on := 12, ground := Go.Ground.chain }], guard := none }) (v := ?vac15) rfl (by kernel_rfl) (by kernel_rfl) (by kernel_rfl) (fun _ _ _ h => h) (Or.inl ⟨by rfl, ?hac15⟩) hHeld ?rac15
    case hac15 => (intro w hSw; (try dsimp only at hSw); go_simp; try with_reducible rfl)
    try simp only [Act.put, List.setIfInBounds_toArray, List.set_cons_zero, List.set_cons_succ]
    refine wpAnyH_take (i := 16) (oi := { dst := some 23, op := Go.Op.fieldAddr 33 (Go.Operand.tmp 3) 1, type := 0, pos := "l10_paths.go:34", after := #[{ on := 15, ground := Go.Ground.guard }], guard := some (15, false) }) (v := undef) rfl (by kernel_rfl) (by kernel_rfl) (by kernel_rfl) (fun _ _ _ h => h) (Or.inr ⟨by rfl, rfl⟩) hHeld ?_
    try simp only [Act.put, List.setIfInBounds_toArray, List.set_cons_zero, List.set_cons_succ]
    refine wpAnyH_take (i := 17) (oi := { dst := some 24, op := Go.Op.load 30 (Go.Operand.tmp 23), type := 30, pos := "l10_paths.go:34", after := #[{ on := 16, ground := Go.Ground.data }, { on := 15, ground := Go.Ground.guard }], guard := some (15, false) }) (v := undef) rfl (by kernel_rfl) (by kernel_rfl) (by kernel_rfl) (fun _ _ _ h => h) (Or.inr ⟨by rfl, rfl⟩) hHeld ?_
    try simp only [Act.put, List.setIfInBounds_toArray, List.set_cons_zero, List.set_cons_succ]
    refine wpAnyH_take (i := 18) (oi := { dst := some 25, op := Go.Op.move (Go.Operand.tmp 1), type := 2, pos := "l10_paths.go:34", after := #[{ on := 15, ground := Go.Ground.guard }], guard := some (15, false) }) (v := undef) rfl (by kernel_rfl) (by kernel_rfl) (by kernel_rfl) (fun _ _ _ h => h) (Or.inr ⟨by rfl, rfl⟩) hHeld ?_
    try simp only [Act.put, List.setIfInBounds_toArray, List.set_cons_zero, List.set_cons_succ]
    refine wpAnyH_take (i := 19) (oi := { dst := some 26, op := Go.Op.indexAddr 30 (Go.Operand.tmp 24) (Go.Operand.tmp 25), type := 0, pos := "l10_paths.go:34", after := #[{ on := 17, ground := Go.Ground.data }, { on := 18, ground := Go.Ground.data }, { on := 15, ground := Go.Ground.guard }], guard := some (15, false) }) (v := undef) rfl (by kernel_rfl) (by kernel_rfl) (by kernel_rfl) (fun _ _ _ h => h) (Or.inr ⟨by rfl, rfl⟩) hHeld ?_
    try simp only [Act.put, List.setIfInBounds_toArray, List.set_cons_zero, List.set_cons_succ]
    refine wpAnyH_take (i := 20) (oi := { dst := some 27, op := Go.Op.fieldAddr 57 (Go.Operand.tmp 26) 1, type := 0, pos := "l10_paths.go:34", after := #[{ on := 19, ground := Go.Ground.data }, { on := 15, ground := Go.Ground.guard }], guard := some (15, false) }) (v := undef) rfl (by kernel_rfl) (by kernel_rfl) (by kernel_rfl) (fun _ _ _ h => h) (Or.inr ⟨by rfl, rfl⟩) hHeld ?_
    try simp only [Act.put, List.setIfInBounds_toArray, List.set_cons_zero, List.set_cons_succ]
    refine wpAnyH_take (i := 21) (oi := { dst := some 28, op := Go.Op.load 2 (Go.Operand.tmp 27), type := 2, pos := "l10_paths.go:34", after := #[{ on := 20, ground := Go.Ground.data }, { on := 15, ground := Go.Ground.guard }], guard := some (15, false) }) (v := undef) rfl (by kernel_rfl) (by kernel_rfl) (by kernel_rfl) (fun _ _ _ h => h) (Or.inr ⟨by rfl, rfl⟩) hHeld ?_
    try simp only [Act.put, List.setIfInBounds_toArray, List.set_cons_zero, List.set_cons_succ]
    refine wpAnyH_take (i := 22) (oi := { dst := some 29, op := Go.Op.fieldAddr 33 (Go.Operand.tmp 3) 1, type := 0, pos := "l10_paths.go:34", after := #[{ on := 15, ground := Go.Ground.guard }], guard := some (15, false) }) (v := undef) rfl (by kernel_rfl) (by kernel_rfl) (by kernel_rfl) (fun _ _ _ h => h) (Or.inr ⟨by rfl, rfl⟩) hHeld ?_
    try simp only [Act.put, List.setIfInBounds_toArray, List.set_cons_zero, List.set_cons_succ]
    refine wpAnyH_take (i := 23) (oi := { dst := some 30, op := Go.Op.load 30 (Go.Operand.tmp 29), type := 30, pos := "l10_paths.go:34", after := #[{ on := 22, ground := Go.Ground.data }, { on := 15, ground := Go.Ground.guard }], guard := some (15, false) }) (v := undef) rfl (by kernel_rfl) (by kernel_rfl) (by kernel_rfl) (fun _ _ _ h => h) (Or.inr ⟨by rfl, rfl⟩) hHeld ?_
    try simp only [Act.put, List.setIfInBounds_toArray, List.set_cons_zero, List.set_cons_succ]
    refine wpAnyH_take (i := 24) (oi := { dst := some 31, op := Go.Op.move (Go.Operand.tmp 2), type := 2, pos := "l10_paths.go:34", after := #[{ on := 15, ground := Go.Ground.guard }], guard := some (15, false) }) (v := undef) rfl (by kernel_rfl) (by kernel_rfl) (by kernel_rfl) (fun _ _ _ h => h) (Or.inr ⟨by rfl, rfl⟩) hHeld ?_
    try simp only [Act.put, List.setIfInBounds_toArray, List.set_cons_zero, List.set_cons_succ]
    refine wpAnyH_take (i := 25) (oi := { dst := some 32, op := Go.Op.indexAddr 30 (Go.Operand.tmp 30) (Go.Operand.tmp 31), type := 0, pos := "l10_paths.go:34", after := #[{ on := 23, ground := Go.Ground.data }, { on := 24, ground := Go.Ground.data }, { on := 15, ground := Go.Ground.guard }], guard := some (15, false) }) (v := undef) rfl (by kernel_rfl) (by kernel_rfl) (by kernel_rfl) (fun _ _ _ h => h) (Or.inr ⟨by rfl, rfl⟩) hHeld ?_
    try simp only [Act.put, List.setIfInBounds_toArray, List.set_cons_zero, List.set_cons_succ]
    refine wpAnyH_take (i := 26) (oi := { dst := some 33, op := Go.Op.fieldAddr 57 (Go.Operand.tmp 32) 0, type := 0, pos := "l10_paths.go:34", after := #[{ on := 25, ground := Go.Ground.data }, { on := 15, ground := Go.Ground.guard }], guard := some (15, false) }) (v := undef) rfl (by kernel_rfl) (by kernel_rfl) (by kernel_rfl) (fun _ _ _ h => h) (Or.inr ⟨by rfl, rfl⟩) hHeld ?_
    try simp only [Act.put, List.setIfInBounds_toArray, List.set_cons_zero, List.set_cons_succ]
    refine wpAnyH_take (i := 27) (oi := { dst := some 34, op := Go.Op.load 2 (Go.Operand.tmp 33), type := 2, pos := "l10_paths.go:34", after := #[{ on := 26, ground := Go.Ground.data }, { on := 15, ground := Go.Ground.guard }], guard := some (15, false) }) (v := undef) rfl (by kernel_rfl) (by kernel_rfl) (by kernel_rfl) (fun _ _ _ h => h) (Or.inr ⟨by rfl, rfl⟩) hHeld ?_
    try simp only [Act.put, List.setIfInBounds_toArray, List.set_cons_zero, List.set_cons_succ]
    refine wpAnyH_take (i := 28) (oi := { dst := some 35, op := Go.Op.binOp Go.BinOp.neq 2 (Go.Operand.tmp 28) (Go.Operand.tmp 34) 2, type := 4, pos := "l10_paths.go:34", after := #[{ on := 21, ground := Go.Ground.data }, { on := 27, ground := Go.Ground.data }, { on := 15, ground := Go.Ground.guard }], guard := some (15, false) }) (v := undef) rfl (by kernel_rfl) (by kernel_rfl) (by kernel_rfl) (fun _ _ _ h => h) (Or.inr ⟨by rfl, rfl⟩) hHeld ?_
    try simp only [Act.put, List.setIfInBounds_toArray, List.set_cons_zero, List.set_cons_succ]
    refine wpAnyH_take (i := 29) (oi := { dst := some 36, op := Go.Op.pick (Go.Operand.tmp 22) (Go.Operand.const (Go.Value.bool true)) (Go.Operand.tmp 35), type := 4, pos := "l10_paths.go:34", after := #[{ on := 15, ground := Go.Ground.data }, { on := 28, ground := Go.Ground.data }], guard := none }) (v := ?vac29) rfl (by kernel_rfl) (by kernel_rfl) (by kernel_rfl) (fun _ _ _ h => h) (Or.inl ⟨by rfl, ?hac29⟩) hHeld ?rac29
    case hac29 => (intro w hSw; (try dsimp only at hSw); go_simp; try with_reducible rfl)
    try simp only [Act.put, List.setIfInBounds_toArray, List.set_cons_zero, List.set_cons_succ]
    refine wpAnyH_done (by kernel_rfl) ?_ _
    refine NoPanic.normal ?_
    go_wp2
    go_ret
    exact ⟨by rw [HF.out]; rfl, bel_step hBW hHeld⟩
  rcases Bool.eq_false_or_eq_true (inN n1 y) with hy | hy
  rotate_left
  · have HF : Hid (R = -1) := (by rw [← HR.out]; exact ttQ_no (fun h => by have := h.2.2; rw [H1.out, hy] at this; cases this) : R = -1)
    go_enter Tryd.func9, Tryd.ntmps9
    go_wp2
    rw [← HW.out]
    refine wp_region_noPanic ?_
    refine wp_region_held_drew (S := fun w' => Bel W w') (by kernel_rfl) (Bel.drew g0) (fun hHeld => ?_)
    refine wpAnyH_take (i := 0) (oi := { dst := some 7, op := Go.Op.load 33 (Go.Operand.tmp 3), type := 33, pos := "l10_paths.go:34", after := #[], guard := none }) (v := ?vad0) rfl (by kernel_rfl) (by kernel_rfl) (by kernel_rfl) (fun _ _ _ h => h) (Or.inl ⟨by rfl, ?had0⟩) hHeld ?rad0
    case had0 => (intro w hSw; (try dsimp only at hSw); go_simp; try with_reducible rfl)
    try simp only [Act.put, List.setIfInBounds_toArray, List.set_cons_zero, List.set_cons_succ]
    refine wpAnyH_ready (rs := [1]) (by kernel_rfl) (by simp) ?_
    refine AllReadyH.cons (o := { dst := some 8, op := Go.Op.call { callee := Go.Callee.value (Go.Operand.func 32), args := #[Go.Operand.tmp 7], argTypes := #[33] }, type := 4, pos := "l10_paths.go:34", after := #[{ on := 0, ground := Go.Ground.data }], guard := none }) rfl (fun K hK => ?_) AllReadyH.nil
    go_simp
    refine (hG _ hHeld).mono ?_
    rintro e w1 ⟨rfl, hbk⟩
    go_wp2_with fail
    refine hK.out _ _ (bel_step hHeld hbk) (fun hHeld' => ?_)
    clear hK K hHeld
    have hHeld := hHeld'
    clear hHeld'
    try simp only [Act.put, List.setIfInBounds_toArray, List.set_cons_zero, List.set_cons_succ]
    refine wpAnyH_take (i := 2) (oi := { dst := some 9, op := Go.Op.unOp Go.UnOp.not 4 (Go.Operand.tmp 8), type := 4, pos := "l10_paths.go:34", after := #[{ on := 1, ground := Go.Ground.data }], guard := none }) (v := ?vad2) rfl (by kernel_rfl) (by kernel_rfl) (by kernel_rfl) (fun _ _ _ h => h) (Or.inl ⟨by rfl, ?had2⟩) hHeld ?rad2
    case had2 => (intro w hSw; (try dsimp only at hSw); go_simp; try with_reducible rfl)
    try simp only [Act.put, List.setIfInBounds_toArray, List.set_cons_zero, List.set_cons_succ]
    refine wpAnyH_take (i := 3) (oi := { dst := some 10, op := Go.Op.move (Go.Operand.tmp 9), type := 4, pos := "l10_paths.go:34", after := #[{ on := 2, ground := Go.Ground.data }, { on := 1, ground := Go.Ground.chain }], guard := none }) (v := ?vad3) rfl (by kernel_rfl) (by kernel_rfl) (by kernel_rfl) (fun _ _ _ h => h) (Or.inl ⟨by rfl, ?had3⟩) hHeld ?rad3
    case had3 => (intro w hSw; (try dsimp only at hSw); go_simp; try with_reducible rfl)
    try simp only [Act.put, List.setIfInBounds_toArray, List.set_cons_zero, List.set_cons_succ]
    refine wpAnyH_take (i := 4) (oi := { dst := some 11, op := Go.Op.load 33 (Go.Operand.tmp 3), type := 33, pos := "l10_paths.go:34", after := #[{ on := 3, ground := Go.Ground.guard }], guard := some (3, false) }) (v := ?vad4) rfl (by kernel_rfl) (by kernel_rfl) (by kernel_rfl) (fun _ _ _ h => h) (Or.inl ⟨by rfl, ?had4⟩) hHeld ?rad4
    case had4 => (intro w hSw; (try dsimp only at hSw); go_simp; try with_reducible rfl)
    try simp only [Act.put, List.setIfInBounds_toArray, List.set_cons_zero, List.set_cons_succ]
    refine wpAnyH_take (i := 5) (oi := { dst := some 12, op := Go.Op.move (Go.Operand.tmp 1), type := 2, pos := "l10_paths.go:34", after := #[{ on := 3, ground := Go.Ground.guard }], guard := some (3, false) }) (v := ?vad5) rfl (by kernel_rfl) (by kernel_rfl) (by kernel_rfl) (fun _ _ _ h => h) (Or.inl ⟨by rfl, ?had5⟩) hHeld ?rad5
    case had5 => (intro w hSw; (try dsimp only at hSw); go_simp; try with_reducible rfl)
    try simp only [Act.put, List.setIfInBounds_toArray, List.set_cons_zero, List.set_cons_succ]
    refine wpAnyH_ready (rs := [6]) (by kernel_rfl) (by simp) ?_
    refine AllReadyH.cons (o := { dst := some 13, op := Go.Op.call { callee := Go.Callee.value (Go.Operand.func 33), args := #[Go.Operand.tmp 11, Go.Operand.tmp 12], argTypes := #[33, 2] }, type := 4, pos := "l10_paths.go:34", after := #[{ on := 4, ground := Go.Ground.data }, { on := 5, ground := Go.Ground.data }, { on := 3, ground := Go.Ground.chain }, { on := 3, ground := Go.Ground.guard }], guard := some (3, false) }) rfl (fun K hK => ?_) AllReadyH.nil
    go_simp
    refine (l10RoadIs_r _ _ _ _ _ _ _ _ _ _ true _ hx).mono ?_
    rintro e w2 ⟨rfl, hbk⟩
    go_wp2_with fail
    refine hK.out _ _ (bel_step hHeld hbk) (fun hHeld' => ?_)
    clear hK K hHeld
    have hHeld := hHeld'
    clear hHeld'
    try simp only [Act.put, List.setIfInBounds_toArray, List.set_cons_zero, List.set_cons_succ]
    refine wpAnyH_take (i := 7) (oi := { dst := some 14, op := Go.Op.unOp Go.UnOp.not 4 (Go.Operand.tmp 13), type := 4, pos := "l10_paths.go:34", after := #[{ on := 6, ground := Go.Ground.data }, { on := 3, ground := Go.Ground.guard }], guard := some (3, false) }) (v := ?vad7) rfl (by kernel_rfl) (by kernel_rfl) (by kernel_rfl) (fun _ _ _ h => h) (Or.inl ⟨by rfl, ?had7⟩) hHeld ?rad7
    case had7 => (intro w hSw; (try dsimp only at hSw); go_simp; try with_reducible rfl)
    try simp only [Act.put, List.setIfInBounds_toArray, List.set_cons_zero, List.set_cons_succ]
    refine wpAnyH_take (i := 8) (oi := { dst := some 15, op := Go.Op.pick (Go.Operand.tmp 10) (Go.Operand.const (Go.Value.bool true)) (Go.Operand.tmp 14), type := 4, pos := "l10_paths.go:34", after := #[{ on := 3, ground := Go.Ground.data }, { on := 7, ground := Go.Ground.data }], guard := none }) (v := ?vad8) rfl (by kernel_rfl) (by kernel_rfl) (by kernel_rfl) (fun _ _ _ h => h) (Or.inl ⟨by rfl, ?had8⟩) hHeld ?rad8
    case had8 => (intro w hSw; (try dsimp only at hSw); go_simp; try with_reducible rfl)
    try simp only [Act.put, List.setIfInBounds_toArray, List.set_cons_zero, List.set_cons_succ]
    refine wpAnyH_take (i := 9) (oi := { dst := some 16, op := Go.Op.move (Go.Operand.tmp 15), type := 4, pos := "l10_paths.go:34", after := #[{ on := 8, ground := Go.Ground.data }, { on := 6, ground := Go.Ground.chain }], guard := none }) (v := ?vad9) rfl (by kernel_rfl) (by kernel_rfl) (by kernel_rfl) (fun _ _ _ h => h) (Or.inl ⟨by rfl, ?had9⟩) hHeld ?rad9
    case had9 => (intro w hSw; (try dsimp only at hSw); go_simp; try with_reducible rfl)
    try simp only [Act.put, List.setIfInBounds_toArray, List.set_cons_zero, List.set_cons_succ]
    refine wpAnyH_take (i := 10) (oi := { dst := some 17, op := Go.Op.load 33 (Go.Operand.tmp 3), type := 33, pos := "l10_paths.go:34", after := #[{ on := 9, ground := Go.Ground.guard }], guard := some (9, false) }) (v := ?vad10) rfl (by kernel_rfl) (by kernel_rfl) (by kernel_rfl) (fun _ _ _ h => h) (Or.inl ⟨by rfl, ?had10⟩) hHeld ?rad10
    case had10 => (intro w hSw; (try dsimp only at hSw); go_simp; try with_reducible rfl)
    try simp only [Act.put, List.setIfInBounds_toArray, List.set_cons_zero, List.set_cons_succ]
    refine wpAnyH_take (i := 11) (oi := { dst := some 18, op := Go.Op.move (Go.Operand.tmp 2), type := 2, pos := "l10_paths.go:34", after := #[{ on := 9, ground := Go.Ground.guard }], guard := some (9, false) }) (v := ?vad11) rfl (by kernel_rfl) (by kernel_rfl) (by kernel_rfl) (fun _ _ _ h => h) (Or.inl ⟨by rfl, ?had11⟩) hHeld ?rad11
    case had11 => (intro w hSw; (try dsimp only at hSw); go_simp; try with_reducible rfl)
    try simp only [Act.put, List.setIfInBounds_toArray, List.set_cons_zero, List.set_cons_succ]
    refine wpAnyH_ready (rs := [12]) (by kernel_rfl) (by simp) ?_
    refine AllReadyH.cons (o := { dst := some 19, op := Go.Op.call { callee := Go.Callee.value (Go.Operand.func 33), args := #[Go.Operand.tmp 17, Go.Operand.tmp 18], argTypes := #[33, 2] }, type := 4, pos := "l10_paths.go:34", after := #[{ on := 10, ground := Go.Ground.data }, { on := 11, ground := Go.Ground.data }, { on := 9, ground := Go.Ground.chain }, { on := 9, ground := Go.Ground.guard }], guard := some (9, false) }) rfl (fun K hK => ?_) AllReadyH.nil
    go_simp
    refine (l10RoadIs_r _ _ _ _ _ _ _ _ _ _ false _ hy).mono ?_
    rintro e w3 ⟨rfl, hbk⟩
    go_wp2_with fail
    refine hK.out _ _ (bel_step hHeld hbk) (fun hHeld' => ?_)
    clear hK K hHeld
    have hHeld := hHeld'
    clear hHeld'
    try simp only [Act.put, List.setIfInBounds_toArray, List.set_cons_zero, List.set_cons_succ]
    refine wpAnyH_take (i := 13) (oi := { dst := some 20, op := Go.Op.unOp Go.UnOp.not 4 (Go.Operand.tmp 19), type := 4, pos := "l10_paths.go:34", after := #[{ on := 12, ground := Go.Ground.data }, { on := 9, ground := Go.Ground.guard }], guard := some (9, false) }) (v := ?vad13) rfl (by kernel_rfl) (by kernel_rfl) (by kernel_rfl) (fun _ _ _ h => h) (Or.inl ⟨by rfl, ?had13⟩) hHeld ?rad13
    case had13 => (intro w hSw; (try dsimp only at hSw); go_simp; try with_reducible rfl)
    try simp only [Act.put, List.setIfInBounds_toArray, List.set_cons_zero, List.set_cons_succ]
    refine wpAnyH_take (i := 14) (oi := { dst := some 21, op := Go.Op.pick (Go.Operand.tmp 16) (Go.Operand.const (Go.Value.bool true)) (Go.Operand.tmp 20), type := 4, pos := "l10_paths.go:34", after := #[{ on := 9, ground := Go.Ground.data }, { on := 13, ground := Go.Ground.data }], guard := none }) (v := ?vad14) rfl (by kernel_rfl) (by kernel_rfl) (by kernel_rfl) (fun _ _ _ h => h) (Or.inl ⟨by rfl, ?had14⟩) hHeld ?rad14
    case had14 => (intro w hSw; (try dsimp only at hSw); go_simp; try with_reducible rfl)
    try simp only [Act.put, List.setIfInBounds_toArray, List.set_cons_zero, List.set_cons_succ]
    refine wpAnyH_take (i := 15) (oi := { dst := some 22, op := Go.Op.move (Go.Operand.tmp 21), type := 4, pos := "l10_paths.go:34", after := #[{ on := 14, ground := Go.Ground.data }, { on := 12, ground := Go.Ground.chain }], guard := none }) (v := ?vad15) rfl (by kernel_rfl) (by kernel_rfl) (by kernel_rfl) (fun _ _ _ h => h) (Or.inl ⟨by rfl, ?had15⟩) hHeld ?rad15
    case had15 => (intro w hSw; (try dsimp only at hSw); go_simp; try with_reducible rfl)
    try simp only [Act.put, List.setIfInBounds_toArray, List.set_cons_zero, List.set_cons_succ]
    refine wpAnyH_take (i := 16) (oi := { dst := some 23, op := Go.Op.fieldAddr 33 (Go.Operand.tmp 3) 1, type := 0, pos := "l10_paths.go:34", after := #[{ on := 15, ground := Go.Ground.guard }], guard := some (15, false) }) (v := undef) rfl (by kernel_rfl) (by kernel_rfl) (by kernel_rfl) (fun _ _ _ h => h) (Or.inr ⟨by rfl, rfl⟩) hHeld ?_
    try simp only [Act.put, List.setIfInBounds_toArray, List.set_cons_zero, List.set_cons_succ]
    refine wpAnyH_take (i := 17) (oi := { dst := some 24, op := Go.Op.load 30 (Go.Operand.tmp 23), type := 30, pos := "l10_paths.go:34", after := #[{ on := 16, ground := Go.Ground.data }, { on := 15, ground := Go.Ground.guard }], guard := some (15, false) }) (v := undef) rfl (by kernel_rfl) (by kernel_rfl) (by kernel_rfl) (fun _ _ _ h => h) (Or.inr ⟨by rfl, rfl⟩) hHeld ?_
    try simp only [Act.put, List.setIfInBounds_toArray, List.set_cons_zero, List.set_cons_succ]
    refine wpAnyH_take (i := 18) (oi := { dst := some 25, op := Go.Op.move (Go.Operand.tmp 1), type := 2, pos := "l10_paths.go:34", after := #[{ on := 15, ground := Go.Ground.guard }], guard := some (15, false) }) (v := undef) rfl (by kernel_rfl) (by kernel_rfl) (by kernel_rfl) (fun _ _ _ h => h) (Or.inr ⟨by rfl, rfl⟩) hHeld ?_
    try simp only [Act.put, List.setIfInBounds_toArray, List.set_cons_zero, List.set_cons_succ]
    refine wpAnyH_take (i := 19) (oi := { dst := some 26, op := Go.Op.indexAddr 30 (Go.Operand.tmp 24) (Go.Operand.tmp 25), type := 0, pos := "l10_paths.go:34", after := #[{ on := 17, ground := Go.Ground.data }, { on := 18, ground := Go.Ground.data }, { on := 15, ground := Go.Ground.guard }], guard := some (15, false) }) (v := undef) rfl (by kernel_rfl) (by kernel_rfl) (by kernel_rfl) (fun _ _ _ h => h) (Or.inr ⟨by rfl, rfl⟩) hHeld ?_
    try simp only [Act.put, List.setIfInBounds_toArray, List.set_cons_zero, List.set_cons_succ]
    refine wpAnyH_take (i := 20) (oi := { dst := some 27, op := Go.Op.fieldAddr 57 (Go.Operand.tmp 26) 1, type := 0, pos := "l10_paths.go:34", after := #[{ on := 19, ground := Go.Ground.data }, { on := 15, ground := Go.Ground.guard }], guard := some (15, false) }) (v := undef) rfl (by kernel_rfl) (by kernel_rfl) (by kernel_rfl) (fun _ _ _ h => h) (Or.inr ⟨by rfl, rfl⟩) hHeld ?_
    try simp only [Act.put, List.setIfInBounds_toArray, List.set_cons_zero, List.set_cons_succ]
    refine wpAnyH_take (i := 21) (oi := { dst := some 28, op := Go.Op.load 2 (Go.Operand.tmp 27), type := 2, pos := "l10_paths.go:34", after := #[{ on := 20, ground := Go.Ground.data }, { on := 15, ground := Go.Ground.guard }], guard := some (15, false) }) (v := undef) rfl (by kernel_rfl) (by kernel_rfl) (by kernel_rfl) (fun _ _ _ h => h) (Or.inr ⟨by rfl, rfl⟩) hHeld ?_
    try simp only [Act.put, List.setIfInBounds_toArray, List.set_cons_zero, List.set_cons_succ]
    refine wpAnyH_take (i := 22) (oi := { dst := some 29, op := Go.Op.fieldAddr 33 (Go.Operand.tmp 3) 1, type := 0, pos := "l10_paths.go:34", after := #[{ on := 15, ground := Go.Ground.guard }], guard := some (15, false) }) (v := undef) rfl (by kernel_rfl) (by kernel_rfl) (by kernel_rfl) (fun _ _ _ h => h) (Or.inr ⟨by rfl, rfl⟩) hHeld ?_
    try simp only [Act.put, List.setIfInBounds_toArray, List.set_cons_zero, List.set_cons_succ]
    refine wpAnyH_take (i := 23) (oi := { dst := some 30, op := Go.Op.load 30 (Go.Operand.tmp 29), type := 30, pos := "l10_paths.go:34", after := #[{ on := 22, ground := Go.Ground.data }, { on := 15, ground := Go.Ground.guard }], guard := some (15, false) }) (v := undef) rfl (by kernel_rfl) (by kernel_rfl) (by kernel_rfl) (fun _ _ _ h => h) (Or.inr ⟨by rfl, rfl⟩) hHeld ?_
    try simp only [Act.put, List.setIfInBounds_toArray, List.set_cons_zero, List.set_cons_succ]
    refine wpAnyH_take (i := 24) (oi := { dst := some 31, op := Go.Op.move (Go.Operand.tmp 2), type := 2, pos := "l10_paths.go:34", after := #[{ on := 15, ground := Go.Ground.guard }], guard := some (15, false) }) (v := undef) rfl (by kernel_rfl) (by kernel_rfl) (by kernel_rfl) (fun _ _ _ h => h) (Or.inr ⟨by rfl, rfl⟩) hHeld ?_
    try simp only [Act.put, List.setIfInBounds_toArray, List.set_cons_zero, List.set_cons_succ]
    refine wpAnyH_take (i := 25) (oi := { dst := some 32, op := Go.Op.indexAddr 30 (Go.Operand.tmp 30) (Go.Operand.tmp 31), type := 0, pos := "l10_paths.go:34", after := #[{ on := 23, ground := Go.Ground.data }, { on := 24, ground := Go.Ground.data }, { on := 15, ground := Go.Ground.guard }], guard := some (15, false) }) (v := undef) rfl (by kernel_rfl) (by kernel_rfl) (by kernel_rfl) (fun _ _ _ h => h) (Or.inr ⟨by rfl, rfl⟩) hHeld ?_
    try simp only [Act.put, List.setIfInBounds_toArray, List.set_cons_zero, List.set_cons_succ]
    refine wpAnyH_take (i := 26) (oi := { dst := some 33, op := Go.Op.fieldAddr 57 (Go.Operand.tmp 32) 0, type := 0, pos := "l10_paths.go:34", after := #[{ on := 25, ground := Go.Ground.data }, { on := 15, ground := Go.Ground.guard }], guard := some (15, false) }) (v := undef) rfl (by kernel_rfl) (by kernel_rfl) (by kernel_rfl) (fun _ _ _ h => h) (Or.inr ⟨by rfl, rfl⟩) hHeld ?_
    try simp only [Act.put, List.setIfInBounds_toArray, List.set_cons_zero, List.set_cons_succ]
    refine wpAnyH_take (i := 27) (oi := { dst := some 34, op := Go.Op.load 2 (Go.Operand.tmp 33), type := 2, pos := "l10_paths.go:34", after := #[{ on := 26, ground := Go.Ground.data }, { on := 15, ground := Go.Ground.guard }], guard := some (15, false) }) (v := undef) rfl (by kernel_rfl) (by kernel_rfl) (by kernel_rfl) (fun _ _ _ h => h) (Or.inr ⟨by rfl, rfl⟩) hHeld ?_
    try simp only [Act.put, List.setIfInBounds_toArray, List.set_cons_zero, List.set_cons_succ]
    refine wpAnyH_take (i := 28) (oi := { dst := some 35, op := Go.Op.binOp Go.BinOp.neq 2 (Go.Operand.tmp 28) (Go.Operand.tmp 34) 2, type := 4, pos := "l10_paths.go:34", after := #[{ on := 21, ground := Go.Ground.data }, { on := 27, ground := Go.Ground.data }, { on := 15, ground := Go.Ground.guard }], guard := some (15, false) }) (v := undef) rfl (by kernel_rfl) (by kernel_rfl) (by kernel_rfl) (fun _ _ _ h => h) (Or.inr ⟨by rfl, rfl⟩) hHeld ?_
    try simp only [Act.put, List.setIfInBounds_toArray, List.set_cons_zero, List.set_cons_succ]
    refine wpAnyH_take (i := 29) (oi := { dst := some 36, op := Go.Op.pick (Go.Operand.tmp 22) (Go.Operand.const (Go.Value.bool true)) (Go.Operand.tmp 35), type := 4, pos := "l10_paths.go:34", after := #[{ on := 15, ground := Go.Ground.data }, { on := 28, ground := Go.Ground.data }], guard := none }) (v := ?vad29) rfl (by kernel_rfl) (by kernel_rfl) (by kernel_rfl) (fun _ _ _ h => h) (Or.inl ⟨by rfl, ?had29⟩) hHeld ?rad29
    case had29 => (intro w hSw; (try dsimp only at hSw); go_simp; try with_reducible rfl)
    try simp only [Act.put, List.setIfInBounds_toArray, List.set_cons_zero, List.set_cons_succ]
    refine wpAnyH_done (by kernel_rfl) ?_ _
    refine NoPanic.normal ?_
    go_wp2
    go_ret
    exact ⟨by rw [HF.out]; rfl, bel_step hBW hHeld⟩
  obtain ⟨i, hi, rfl⟩ := inN_nat hx
  obtain ⟨j, hj, rfl⟩ := inN_nat hy
  have hil : i < g.roads.length := by rw [H1.out]; exact hi
  have hjl : j < g.roads.length := by rw [H1.out]; exact hj
  obtain ⟨b, off, f, rfl, hb, hxx⟩ := t1.out hil
  obtain ⟨_, _, _, _, _, _, _, _, yi, _⟩ := hxx i hil
  obtain ⟨_, _, _, _, _, _, _, yj, _⟩ := hxx j hjl
  obtain ⟨P, HPP⟩ : ∃ P, Hid (g.roads[i].to = P) := ⟨_, (rfl : g.roads[i].to = _)⟩
  obtain ⟨Q, HQQ⟩ : ∃ Q, Hid (g.roads[j].fr = Q) := ⟨_, (rfl : g.roads[j].fr = _)⟩
  rw [HPP.out] at yi
  rw [HQQ.out] at yj
  have hS2 : ∀ w', Bel W w' → w'.cell? ⟨b, off + i * 6 + 1, none⟩ = some (.int .i64 P) ∧ w'.cell? ⟨b, off + j * 6, none⟩ = some (.int .i64 Q) := fun w' h => ⟨bel_cellM (bel_step hBW h) hb yi, bel_cellM (bel_step hBW h) hb yj⟩
  have hiI : (i : Int) < (n1 : Int) := by omega
  have hjI : (j : Int) < (n1 : Int) := by omega
  clear hxx yi yj
  by_cases he : P = Q
  · have hE : (P != Q) = false := by simp [he]
    have HF : Hid (R = tnB g i j) := (by rw [← HR.out]; exact ttQ_at HP.out hil hjl (by rw [HPP.out, HQQ.out]; exact he) : R = tnB g i j)
    clear he
    go_enter Tryd.func9, Tryd.ntmps9
    go_wp2
    rw [← HW.out]
    refine wp_region_noPanic ?_
    refine wp_region_held_drew (S := fun w' => Bel W w') (by kernel_rfl) (Bel.drew g0) (fun hHeld => ?_)
    refine wpAnyH_take (i := 0) (oi := { dst := some 7, op := Go.Op.load 33 (Go.Operand.tmp 3), type := 33, pos := "l10_paths.go:34", after := #[], guard := none }) (v := ?vae0) rfl (by kernel_rfl) (by kernel_rfl) (by kernel_rfl) (fun _ _ _ h => h) (Or.inl ⟨by rfl, ?hae0⟩) hHeld ?rae0
    case hae0 => (intro w hSw; (try dsimp only at hSw); go_simp; try with_reducible rfl)
    try simp only [Act.put, List.setIfInBounds_toArray, List.set_cons_zero, List.set_cons_succ]
    refine wpAnyH_ready (rs := [1]) (by kernel_rfl) (by simp) ?_
    refine AllReadyH.cons (o := { dst := some 8, op := Go.Op.call { callee := Go.Callee.value (Go.Operand.func 32), args := #[Go.Operand.tmp 7], argTypes := #[33] }, type := 4, pos := "l10_paths.go:34", after := #[{ on := 0, ground := Go.Ground.data }], guard := none }) rfl (fun K hK => ?_) AllReadyH.nil
    go_simp
    refine (hG _ hHeld).mono ?_
    rintro e w1 ⟨rfl, hbk⟩
    go_wp2_with fail
    refine hK.out _ _ (bel_step hHeld hbk) (fun hHeld' => ?_)
    clear hK K hHeld
    have hHeld := hHeld'
    clear hHeld'
    try simp only [Act.put, List.setIfInBounds_toArray, List.set_cons_zero, List.set_cons_succ]
    refine wpAnyH_take (i := 2) (oi := { dst := some 9, op := Go.Op.unOp Go.UnOp.not 4 (Go.Operand.tmp 8), type := 4, pos := "l10_paths.go:34", after := #[{ on := 1, ground := Go.Ground.data }], guard := none }) (v := ?vae2) rfl (by kernel_rfl) (by kernel_rfl) (by kernel_rfl) (fun _ _ _ h => h) (Or.inl ⟨by rfl, ?hae2⟩) hHeld ?rae2
    case hae2 => (intro w hSw; (try dsimp only at hSw); go_simp; try with_reducible rfl)
    try simp only [Act.put, List.setIfInBounds_toArray, List.set_cons_zero, List.set_cons_succ]
    refine wpAnyH_take (i := 3) (oi := { dst := some 10, op := Go.Op.move (Go.Operand.tmp 9), type := 4, pos := "l10_paths.go:34", after := #[{ on := 2, ground := Go.Ground.data }, { on := 1, ground := Go.Ground.chain }], guard := none }) (v := ?vae3) rfl (by kernel_rfl) (by kernel_rfl) (by kernel_rfl) (fun _ _ _ h => h) (Or.inl ⟨by rfl, ?hae3⟩) hHeld ?rae3
    case hae3 => (intro w hSw; (try dsimp only at hSw); go_simp; try with_reducible rfl)
    try simp only [Act.put, List.setIfInBounds_toArray, List.set_cons_zero, List.set_cons_succ]
    refine wpAnyH_take (i := 4) (oi := { dst := some 11, op := Go.Op.load 33 (Go.Operand.tmp 3), type := 33, pos := "l10_paths.go:34", after := #[{ on := 3, ground := Go.Ground.guard }], guard := some (3, false) }) (v := ?vae4) rfl (by kernel_rfl) (by kernel_rfl) (by kernel_rfl) (fun _ _ _ h => h) (Or.inl ⟨by rfl, ?hae4⟩) hHeld ?rae4
    case hae4 => (intro w hSw; (try dsimp only at hSw); go_simp; try with_reducible rfl)
    try simp only [Act.put, List.setIfInBounds_toArray, List.set_cons_zero, List.set_cons_succ]
    refine wpAnyH_take (i := 5) (oi := { dst := some 12, op := Go.Op.move (Go.Operand.tmp 1), type := 2, pos := "l10_paths.go:34", after := #[{ on := 3, ground := Go.Ground.guard }], guard := some (3, false) }) (v := ?vae5) rfl (by kernel_rfl) (by kernel_rfl) (by kernel_rfl) (fun _ _ _ h => h) (Or.inl ⟨by rfl, ?hae5⟩) hHeld ?rae5
    case hae5 => (intro w hSw; (try dsimp only at hSw); go_simp; try with_reducible rfl)
    try simp only [Act.put, List.setIfInBounds_toArray, List.set_cons_zero, List.set_cons_succ]
    refine wpAnyH_ready (rs := [6]) (by kernel_rfl) (by simp) ?_
    refine AllReadyH.cons (o := { dst := some 13, op := Go.Op.call { callee := Go.Callee.value (Go.Operand.func 33), args := #[Go.Operand.tmp 11, Go.Operand.tmp 12], argTypes := #[33, 2] }, type := 4, pos := "l10_paths.go:34", after := #[{ on := 4, ground := Go.Ground.data }, { on := 5, ground := Go.Ground.data }, { on := 3, ground := Go.Ground.chain }, { on := 3, ground := Go.Ground.guard }], guard := some (3, false) }) rfl (fun K hK => ?_) AllReadyH.nil
    go_simp
    refine (l10RoadIs_r _ _ _ _ _ _ _ _ _ _ true _ hx).mono ?_
    rintro e w2 ⟨rfl, hbk⟩
    go_wp2_with fail
    refine hK.out _ _ (bel_step hHeld hbk) (fun hHeld' => ?_)
    clear hK K hHeld
    have hHeld := hHeld'
    clear hHeld'
    try simp only [Act.put, List.setIfInBounds_toArray, List.set_cons_zero, List.set_cons_succ]
    refine wpAnyH_take (i := 7) (oi := { dst := some 14, op := Go.Op.unOp Go.UnOp.not 4 (Go.Operand.tmp 13), type := 4, pos := "l10_paths.go:34", after := #[{ on := 6, ground := Go.Ground.data }, { on := 3, ground := Go.Ground.guard }], guard := some (3, false) }) (v := ?vae7) rfl (by kernel_rfl) (by kernel_rfl) (by kernel_rfl) (fun _ _ _ h => h) (Or.inl ⟨by rfl, ?hae7⟩) hHeld ?rae7
    case hae7 => (intro w hSw; (try dsimp only at hSw); go_simp; try with_reducible rfl)
    try simp only [Act.put, List.setIfInBounds_toArray, List.set_cons_zero, List.set_cons_succ]
    refine wpAnyH_take (i := 8) (oi := { dst := some 15, op := Go.Op.pick (Go.Operand.tmp 10) (Go.Operand.const (Go.Value.bool true)) (Go.Operand.tmp 14), type := 4, pos := "l10_paths.go:34", after := #[{ on := 3, ground := Go.Ground.data }, { on := 7, ground := Go.Ground.data }], guard := none }) (v := ?vae8) rfl (by kernel_rfl) (by kernel_rfl) (by kernel_rfl) (fun _ _ _ h => h) (Or.inl ⟨by rfl, ?hae8⟩) hHeld ?rae8
    case hae8 => (intro w hSw; (try dsimp only at hSw); go_simp; try with_reducible rfl)
    try simp only [Act.put, List.setIfInBounds_toArray, List.set_cons_zero, List.set_cons_succ]
    refine wpAnyH_take (i := 9) (oi := { dst := some 16, op := Go.Op.move (Go.Operand.tmp 15), type := 4, pos := "l10_paths.go:34", after := #[{ on := 8, ground := Go.Ground.data }, { on := 6, ground := Go.Ground.chain }], guard := none }) (v := ?vae9) rfl (by kernel_rfl) (by kernel_rfl) (by kernel_rfl) (fun _ _ _ h => h) (Or.inl ⟨by rfl, ?hae9⟩) hHeld ?rae9
    case hae9 => (intro w hSw; (try dsimp only at hSw); go_simp; try with_reducible rfl)
    try simp only [Act.put, List.setIfInBounds_toArray, List.set_cons_zero, List.set_cons_succ]
    refine wpAnyH_take (i := 10) (oi := { dst := some 17, op := Go.Op.load 33 (Go.Operand.tmp 3), type := 33, pos := "l10_paths.go:34", after := #[{ on := 9, ground := Go.Ground.guard }], guard := some (9, false) }) (v := ?vae10) rfl (by kernel_rfl) (by kernel_rfl) (by kernel_rfl) (fun _ _ _ h => h) (Or.inl ⟨by rfl, ?hae10⟩) hHeld ?rae10
    case hae10 => (intro w hSw; (try dsimp only at hSw); go_simp; try with_reducible rfl)
    try simp only [Act.put, List.setIfInBounds_toArray, List.set_cons_zero, List.set_cons_succ]
    refine wpAnyH_take (i := 11) (oi := { dst := some 18, op := Go.Op.move (Go.Operand.tmp 2), type := 2, pos := "l10_paths.go:34", after := #[{ on := 9, ground := Go.Ground.guard }], guard := some (9, false) }) (v := ?vae11) rfl (by kernel_rfl) (by kernel_rfl) (by kernel_rfl) (fun _ _ _ h => h) (Or.inl ⟨by rfl, ?hae11⟩) hHeld ?rae11
    case hae11 => (intro w hSw; (try dsimp only at hSw); go_simp; try with_reducible rfl)
    try simp only [Act.put, List.setIfInBounds_toArray, List.set_cons_zero, List.set_cons_succ]
    refine wpAnyH_ready (rs := [12]) (by kernel_rfl) (by simp) ?_
    refine AllReadyH.cons (o := { dst := some 19, op := Go.Op.call { callee := Go.Callee.value (Go.Operand.func 33), args := #[Go.Operand.tmp 17, Go.Operand.tmp 18], argTypes := #[33, 2] }, type := 4, pos := "l10_paths.go:34", after := #[{ on := 10, ground := Go.Ground.data }, { on := 11, ground := Go.Ground.data }, { on := 9, ground := Go.Ground.chain }, { on := 9, ground := Go.Ground.guard }], guard := some (9, false) }) rfl (fun K hK => ?_) AllReadyH.nil
    go_simp
    refine (l10RoadIs_r _ _ _ _ _ _ _ _ _ _ true _ hy).mono ?_
    rintro e w3 ⟨rfl, hbk⟩
    go_wp2_with fail
    refine hK.out _ _ (bel_step hHeld hbk) (fun hHeld' => ?_)
    clear hK K hHeld
    have hHeld := hHeld'
    clear hHeld'
    try simp only [Act.put, List.setIfInBounds_toArray, List.set_cons_zero, List.set_cons_succ]
    refine wpAnyH_take (i := 13) (oi := { dst := some 20, op := Go.Op.unOp Go.UnOp.not 4 (Go.Operand.tmp 19), type := 4, pos := "l10_paths.go:34", after := #[{ on := 12, ground := Go.Ground.data }, { on := 9, ground := Go.Ground.guard }], guard := some (9, false) }) (v := ?vae13) rfl (by kernel_rfl) (by kernel_rfl) (by kernel_rfl) (fun _ _ _ h => h) (Or.inl ⟨by rfl, ?hae13⟩) hHeld ?rae13
    case hae13 => (intro w hSw; (try dsimp only at hSw); go_simp; try with_reducible rfl)
    try simp only [Act.put, List.setIfInBounds_toArray, List.set_cons_zero, List.set_cons_succ]
    refine wpAnyH_take (i := 14) (oi := { dst := some 21, op := Go.Op.pick (Go.Operand.tmp 16) (Go.Operand.const (Go.Value.bool true)) (Go.Operand.tmp 20), type := 4, pos := "l10_paths.go:34", after := #[{ on := 9, ground := Go.Ground.data }, { on := 13, ground := Go.Ground.data }], guard := none }) (v := ?vae14) rfl (by kernel_rfl) (by kernel_rfl) (by kernel_rfl) (fun _ _ _ h => h) (Or.inl ⟨by rfl, ?hae14⟩) hHeld ?rae14
    case hae14 => (intro w hSw; (try dsimp only at hSw); go_simp; try with_reducible rfl)
    try simp only [Act.put, List.setIfInBounds_toArray, List.set_cons_zero, List.set_cons_succ]
    refine wpAnyH_take (i := 15) (oi := { dst := some 22, op := Go.Op.move (Go.Operand.tmp 21), type := 4, pos := "l10_paths.go:34", after := #[{ on := 14, ground := Go.Ground.data }, { on := 12, ground := Go.Ground.chain }], guard := none }) (v := ?vae15) rfl (by kernel_rfl) (by kernel_rfl) (by kernel_rfl) (fun _ _ _ h => h) (Or.inl ⟨by rfl, ?hae15⟩) hHeld ?rae15
    case hae15 => (intro w hSw; (try dsimp only at hSw); go_simp; try with_reducible rfl)
    try simp only [Act.put, List.setIfInBounds_toArray, List.set_cons_zero, List.set_cons_succ]
    refine wpAnyH_take (i := 16) (oi := { dst := some 23, op := Go.Op.fieldAddr 33 (Go.Operand.tmp 3) 1, type := 0, pos := "l10_paths.go:34", after := #[{ on := 15, ground := Go.Ground.guard }], guard := some (15, false) }) (v := ?vae16) rfl (by kernel_rfl) (by kernel_rfl) (by kernel_rfl) (fun _ _ _ h => h) (Or.inl ⟨by rfl, ?hae16⟩) hHeld ?rae16
    case hae16 => (intro w hSw; (try dsimp only at hSw); go_simp; try with_reducible rfl)
    try simp only [Act.put, List.setIfInBounds_toArray, List.set_cons_zero, List.set_cons_succ]
    refine wpAnyH_take (i := 17) (oi := { dst := some 24, op := Go.Op.load 30 (Go.Operand.tmp 23), type := 30, pos := "l10_paths.go:34", after := #[{ on := 16, ground := Go.Ground.data }, { on := 15, ground := Go.Ground.guard }], guard := some (15, false) }) (v := ?vae17) rfl (by kernel_rfl) (by kernel_rfl) (by kernel_rfl) (fun _ _ _ h => h) (Or.inl ⟨by rfl, ?hae17⟩) hHeld ?rae17
    case hae17 => (intro w hSw; (try dsimp only at hSw); go_simp; try with_reducible rfl)
    try simp only [Act.put, List.setIfInBounds_toArray, List.set_cons_zero, List.set_cons_succ]
    refine wpAnyH_take (i := 18) (oi := { dst := some 25, op := Go.Op.move (Go.Operand.tmp 1), type := 2, pos := "l10_paths.go:34", after := #[{ on := 15, ground := Go.Ground.guard }], guard := some (15, false) }) (v := ?vae18) rfl (by kernel_rfl) (by kernel_rfl) (by kernel_rfl) (fun _ _ _ h => h) (Or.inl ⟨by rfl, ?hae18⟩) hHeld ?rae18
    case hae18 => (intro w hSw; (try dsimp only at hSw); go_simp; try with_reducible rfl)
    try simp only [Act.put, List.setIfInBounds_toArray, List.set_cons_zero, List.set_cons_succ]
    refine wpAnyH_take (i := 19) (oi := { dst := some 26, op := Go.Op.indexAddr 30 (Go.Operand.tmp 24) (Go.Operand.tmp 25), type := 0, pos := "l10_paths.go:34", after := #[{ on := 17, ground := Go.Ground.data }, { on := 18, ground := Go.Ground.data }, { on := 15, ground := Go.Ground.guard }], guard := some (15, false) }) (v := ?vae19) rfl (by kernel_rfl) (by kernel_rfl) (by kernel_rfl) (fun _ _ _ h => h) (Or.inl ⟨by rfl, ?hae19⟩) hHeld ?rae19
    case hae19 => (intro w hSw; (try dsimp only at hSw); go_simp; try with_reducible rfl)
    try simp only [Act.put, List.setIfInBounds_toArray, List.set_cons_zero, List.set_cons_succ]
    refine wpAnyH_take (i := 20) (oi := { dst := some 27, op := Go.Op.fieldAddr 57 (Go.Operand.tmp 26) 1, type := 0, pos := "l10_paths.go:34", after := #[{ on := 19, ground := Go.Ground.data }, { on := 15, ground := Go.Ground.guard }], guard := some (15, false) }) (v := ?vae20) rfl (by kernel_rfl) (by kernel_rfl) (by kernel_rfl) (fun _ _ _ h => h) (Or.inl ⟨by rfl, ?hae20⟩) hHeld ?rae20
    case hae20 => (intro w hSw; (try dsimp only at hSw); go_simp; try with_reducible rfl)
    try simp only [Act.put, List.setIfInBounds_toArray, List.set_cons_zero, List.set_cons_succ]
    refine wpAnyH_take (i := 21) (oi := { dst := some 28, op := Go.Op.load 2 (Go.Operand.tmp 27), type := 2, pos := "l10_paths.go:34", after := #[{ on := 20, ground := Go.Ground.data }, { on := 15, ground := Go.Ground.guard }], guard := some (15, false) }) (v := ?vae21) rfl (by kernel_rfl) (by kernel_rfl) (by kernel_rfl) (fun _ _ _ h => h) (Or.inl ⟨by rfl, ?hae21⟩) hHeld ?rae21
    case hae21 => (intro w hSw; (try dsimp only at hSw); go_simp; try with_reducible rfl)
    try simp only [Act.put, List.setIfInBounds_toArray, List.set_cons_zero, List.set_cons_succ]
    refine wpAnyH_take (i := 22) (oi := { dst := some 29, op := Go.Op.fieldAddr 33 (Go.Operand.tmp 3) 1, type := 0, pos := "l10_paths.go:34", after := #[{ on := 15, ground := Go.Ground.guard }], guard := some (15, false) }) (v := ?vae22) rfl (by kernel_rfl) (by kernel_rfl) (by kernel_rfl) (fun _ _ _ h => h) (Or.inl ⟨by rfl, ?hae22⟩) hHeld ?rae22
    case hae22 => (intro w hSw; (try dsimp only at hSw); go_simp; try with_reducible rfl)
    try simp only [Act.put, List.setIfInBounds_toArray, List.set_cons_zero, List.set_cons_succ]
    refine wpAnyH_take (i := 23) (oi := { dst := some 30, op := Go.Op.load 30 (Go.Operand.tmp 29), type := 30, pos := "l10_paths.go:34", after := #[{ on := 22, ground := Go.Ground.data }, { on := 15, ground := Go.Ground.guard }], guard := some (15, false) }) (v := ?vae23) rfl (by kernel_rfl) (by kernel_rfl) (by kernel_rfl) (fun _ _ _ h => h) (Or.inl ⟨by rfl, ?hae23⟩) hHeld ?rae23
    case hae23 => (intro w hSw; (try dsimp only at hSw); go_simp; try with_reducible rfl)
    try simp only [Act.put, List.setIfInBounds_toArray, List.set_cons_zero, List.set_cons_succ]
    refine wpAnyH_take (i := 24) (oi := { dst := some 31, op := Go.Op.move (Go.Operand.tmp 2), type := 2, pos := "l10_paths.go:34", after := #[{ on := 15, ground := Go.Ground.guard }], guard := some (15, false) }) (v := ?vae24) rfl (by kernel_rfl) (by kernel_rfl) (by kernel_rfl) (fun _ _ _ h => h) (Or.inl ⟨by rfl, ?hae24⟩) hHeld ?rae24
    case hae24 => (intro w hSw; (try dsimp only at hSw); go_simp; try with_reducible rfl)
    try simp only [Act.put, List.setIfInBounds_toArray, List.set_cons_zero, List.set_cons_succ]
    refine wpAnyH_take (i := 25) (oi := { dst := some 32, op := Go.Op.indexAddr 30 (Go.Operand.tmp 30) (Go.Operand.tmp 31), type := 0, pos := "l10_paths.go:34", after := #[{ on := 23, ground := Go.Ground.data }, { on := 24, ground := Go.Ground.data }, { on := 15, ground := Go.Ground.guard }], guard := some (15, false) }) (v := ?vae25) rfl (by kernel_rfl) (by kernel_rfl) (by kernel_rfl) (fun _ _ _ h => h) (Or.inl ⟨by rfl, ?hae25⟩) hHeld ?rae25
    case hae25 => (intro w hSw; (try dsimp only at hSw); go_simp; try with_reducible rfl)
    try simp only [Act.put, List.setIfInBounds_toArray, List.set_cons_zero, List.set_cons_succ]
    refine wpAnyH_take (i := 26) (oi := { dst := some 33, op := Go.Op.fieldAddr 57 (Go.Operand.tmp 32) 0, type := 0, pos := "l10_paths.go:34", after := #[{ on := 25, ground := Go.Ground.data }, { on := 15, ground := Go.Ground.guard }], guard := some (15, false) }) (v := ?vae26) rfl (by kernel_rfl) (by kernel_rfl) (by kernel_rfl) (fun _ _ _ h => h) (Or.inl ⟨by rfl, ?hae26⟩) hHeld ?rae26
    case hae26 => (intro w hSw; (try dsimp only at hSw); go_simp; try with_reducible rfl)
    try simp only [Act.put, List.setIfInBounds_toArray, List.set_cons_zero, List.set_cons_succ]
    refine wpAnyH_take (i := 27) (oi := { dst := some 34, op := Go.Op.load 2 (Go.Operand.tmp 33), type := 2, pos := "l10_paths.go:34", after := #[{ on := 26, ground := Go.Ground.data }, { on := 15, ground := Go.Ground.guard }], guard := some (15, false) }) (v := ?vae27) rfl (by kernel_rfl) (by kernel_rfl) (by kernel_rfl) (fun _ _ _ h => h) (Or.inl ⟨by rfl, ?hae27⟩) hHeld ?rae27
    case hae27 => (intro w hSw; (try dsimp only at hSw); go_simp; try with_reducible rfl)
    try simp only [Act.put, List.setIfInBounds_toArray, List.set_cons_zero, List.set_cons_succ]
    refine wpAnyH_take (i := 28) (oi := { dst := some 35, op := Go.Op.binOp Go.BinOp.neq 2 (Go.Operand.tmp 28) (Go.Operand.tmp 34) 2, type := 4, pos := "l10_paths.go:34", after := #[{ on := 21, ground := Go.Ground.data }, { on := 27, ground := Go.Ground.data }, { on := 15, ground := Go.Ground.guard }], guard := some (15, false) }) (v := ?vae28) rfl (by kernel_rfl) (by kernel_rfl) (by kernel_rfl) (fun _ _ _ h => h) (Or.inl ⟨by rfl, ?hae28⟩) hHeld ?rae28
    case hae28 => (intro w hSw; (try dsimp only at hSw); go_simp; try with_reducible rfl)
    try simp only [Act.put, List.setIfInBounds_toArray, List.set_cons_zero, List.set_cons_succ]
    refine wpAnyH_take (i := 29) (oi := { dst := some 36, op := Go.Op.pick (Go.Operand.tmp 22) (Go.Operand.const (Go.Value.bool true)) (Go.Operand.tmp 35), type := 4, pos := "l10_paths.go:34", after := #[{ on := 15, ground := Go.Ground.data }, { on := 28, ground := Go.Ground.data }], guard := none }) (v := ?vae29) rfl (by kernel_rfl) (by kernel_rfl) (by kernel_rfl) (fun _ _ _ h => h) (Or.inl ⟨by rfl, ?hae29⟩) hHeld ?rae29
    case hae29 => (intro w hSw; (try dsimp only at hSw); go_simp; try with_reducible rfl)
    try simp only [Act.put, List.setIfInBounds_toArray, List.set_cons_zero, List.set_cons_succ]
    refine wpAnyH_done (by kernel_rfl) ?_ _
    refine NoPanic.normal ?_
    obtain ⟨k0, k1, k2⟩ := hS _ hHeld
    have kl := World.block_lt_of_cell? _ _ k0
    have hB3 := bel_step hBW hHeld
    clear hS hS2
    go_wp2_with fail
    refine (specTurn_any _ _ _ _ _ _ _ _ _ g b0 b1 b2 i j _ (t0.bel spotE hB3) (t1.bel roadE hB3) (t2.bel banE hB3) H0.out H1.out H2.out HP.out hi hj).mono ?_
    rintro e w4 ⟨rfl, hb4⟩
    clear k0 k1 k2
    go_wp2
    go_ret
    exact ⟨by rw [HF.out]; rfl, bel_step hB3 hb4⟩
  · have hE : (P != Q) = true := by simp [he]
    have HF : Hid (R = -1) := (by rw [← HR.out]; exact ttQ_apart hil hjl (by rw [HPP.out, HQQ.out]; exact he) : R = -1)
    clear he
    go_enter Tryd.func9, Tryd.ntmps9
    go_wp2
    rw [← HW.out]
    refine wp_region_noPanic ?_
    refine wp_region_held_drew (S := fun w' => Bel W w') (by kernel_rfl) (Bel.drew g0) (fun hHeld => ?_)
    refine wpAnyH_take (i := 0) (oi := { dst := some 7, op := Go.Op.load 33 (Go.Operand.tmp 3), type := 33, pos := "l10_paths.go:34", after := #[], guard := none }) (v := ?vaf0) rfl (by kernel_rfl) (by kernel_rfl) (by kernel_rfl) (fun _ _ _ h => h) (Or.inl ⟨by rfl, ?haf0⟩) hHeld ?raf0
    case haf0 => (intro w hSw; (try dsimp only at hSw); go_simp; try with_reducible rfl)
    try simp only [Act.put, List.setIfInBounds_toArray, List.set_cons_zero, List.set_cons_succ]
    refine wpAnyH_ready (rs := [1]) (by kernel_rfl) (by simp) ?_
    refine AllReadyH.cons (o := { dst := some 8, op := Go.Op.call { callee := Go.Callee.value (Go.Operand.func 32), args := #[Go.Operand.tmp 7], argTypes := #[33] }, type := 4, pos := "l10_paths.go:34", after := #[{ on := 0, ground := Go.Ground.data }], guard := none }) rfl (fun K hK => ?_) AllReadyH.nil
    go_simp
    refine (hG _ hHeld).mono ?_
    rintro e w1 ⟨rfl, hbk⟩
    go_wp2_with fail
    refine hK.out _ _ (bel_step hHeld hbk) (fun hHeld' => ?_)
    clear hK K hHeld
    have hHeld := hHeld'
    clear hHeld'
    try simp only [Act.put, List.setIfInBounds_toArray, List.set_cons_zero, List.set_cons_succ]
    refine wpAnyH_take (i := 2) (oi := { dst := some 9, op := Go.Op.unOp Go.UnOp.not 4 (Go.Operand.tmp 8), type := 4, pos := "l10_paths.go:34", after := #[{ on := 1, ground := Go.Ground.data }], guard := none }) (v := ?vaf2) rfl (by kernel_rfl) (by kernel_rfl) (by kernel_rfl) (fun _ _ _ h => h) (Or.inl ⟨by rfl, ?haf2⟩) hHeld ?raf2
    case haf2 => (intro w hSw; (try dsimp only at hSw); go_simp; try with_reducible rfl)
    try simp only [Act.put, List.setIfInBounds_toArray, List.set_cons_zero, List.set_cons_succ]
    refine wpAnyH_take (i := 3) (oi := { dst := some 10, op := Go.Op.move (Go.Operand.tmp 9), type := 4, pos := "l10_paths.go:34", after := #[{ on := 2, ground := Go.Ground.data }, { on := 1, ground := Go.Ground.chain }], guard := none }) (v := ?vaf3) rfl (by kernel_rfl) (by kernel_rfl) (by kernel_rfl) (fun _ _ _ h => h) (Or.inl ⟨by rfl, ?haf3⟩) hHeld ?raf3
    case haf3 => (intro w hSw; (try dsimp only at hSw); go_simp; try with_reducible rfl)
    try simp only [Act.put, List.setIfInBounds_toArray, List.set_cons_zero, List.set_cons_succ]
    refine wpAnyH_take (i := 4) (oi := { dst := some 11, op := Go.Op.load 33 (Go.Operand.tmp 3), type := 33, pos := "l10_paths.go:34", after := #[{ on := 3, ground := Go.Ground.guard }], guard := some (3, false) }) (v := ?vaf4) rfl (by kernel_rfl) (by kernel_rfl) (by kernel_rfl) (fun _ _ _ h => h) (Or.inl ⟨by rfl, ?haf4⟩) hHeld ?raf4
    case haf4 => (intro w hSw; (try dsimp only at hSw); go_simp; try with_reducible rfl)
    try simp only [Act.put, List.setIfInBounds_toArray, List.set_cons_zero, List.set_cons_succ]
    refine wpAnyH_take (i := 5) (oi := { dst := some 12, op := Go.Op.move (Go.Operand.tmp 1), type := 2, pos := "l10_paths.go:34", after := #[{ on := 3, ground := Go.Ground.guard }], guard := some (3, false) }) (v := ?vaf5) rfl (by kernel_rfl) (by kernel_rfl) (by kernel_rfl) (fun _ _ _ h => h) (Or.inl ⟨by rfl, ?haf5⟩) hHeld ?raf5
    case haf5 => (intro w hSw; (try dsimp only at hSw); go_simp; try with_reducible rfl)
    try simp only [Act.put, List.setIfInBounds_toArray, List.set_cons_zero, List.set_cons_succ]
    refine wpAnyH_ready (rs := [6]) (by kernel_rfl) (by simp) ?_
    refine AllReadyH.cons (o := { dst := some 13, op := Go.Op.call { callee := Go.Callee.value (Go.Operand.func 33), args := #[Go.Operand.tmp 11, Go.Operand.tmp 12], argTypes := #[33, 2] }, type := 4, pos := "l10_paths.go:34", after := #[{ on := 4, ground := Go.Ground.data }, { on := 5, ground := Go.Ground.data }, { on := 3, ground := Go.Ground.chain }, { on := 3, ground := Go.Ground.guard }], guard := some (3, false) }) rfl (fun K hK => ?_) AllReadyH.nil
    go_simp
    refine (l10RoadIs_r _ _ _ _ _ _ _ _ _ _ true _ hx).mono ?_
    rintro e w2 ⟨rfl, hbk⟩
    go_wp2_with fail
    refine hK.out _ _ (bel_step hHeld hbk) (fun hHeld' => ?_)
    clear hK K hHeld
    have hHeld := hHeld'
    clear hHeld'
    try simp only [Act.put, List.setIfInBounds_toArray, List.set_cons_zero, List.set_cons_succ]
    refine wpAnyH_take (i := 7) (oi := { dst := some 14, op := Go.Op.unOp Go.UnOp.not 4 (Go.Operand.tmp 13), type := 4, pos := "l10_paths.go:34", after := #[{ on := 6, ground := Go.Ground.data }, { on := 3, ground := Go.Ground.guard }], guard := some (3, false) }) (v := ?vaf7) rfl (by kernel_rfl) (by kernel_rfl) (by kernel_rfl) (fun _ _ _ h => h) (Or.inl ⟨by rfl, ?haf7⟩) hHeld ?raf7
    case haf7 => (intro w hSw; (try dsimp only at hSw); go_simp; try with_reducible rfl)
    try simp only [Act.put, List.setIfInBounds_toArray, List.set_cons_zero, List.set_cons_succ]
    refine wpAnyH_take (i := 8) (oi := { dst := some 15, op := Go.Op.pick (Go.Operand.tmp 10) (Go.Operand.const (Go.Value.bool true)) (Go.Operand.tmp 14), type := 4, pos := "l10_paths.go:34", after := #[{ on := 3, ground := Go.Ground.data }, { on := 7, ground := Go.Ground.data }], guard := none }) (v := ?vaf8) rfl (by kernel_rfl) (by kernel_rfl) (by kernel_rfl) (fun _ _ _ h => h) (Or.inl ⟨by rfl, ?haf8⟩) hHeld ?raf8
    case haf8 => (intro w hSw; (try dsimp only at hSw); go_simp; try with_reducible rfl)
    try simp only [Act.put, List.setIfInBounds_toArray, List.set_cons_zero, List.set_cons_succ]
    refine wpAnyH_take (i := 9) (oi := { dst := some 16, op := Go.Op.move (Go.Operand.tmp 15), type := 4, pos := "l10_paths.go:34", after := #[{ on := 8, ground := Go.Ground.data }, { on := 6, ground := Go.Ground.chain }], guard := none }) (v := ?vaf9) rfl (by kernel_rfl) (by kernel_rfl) (by kernel_rfl) (fun _ _ _ h => h) (Or.inl ⟨by rfl, ?haf9⟩) hHeld ?raf9
    case haf9 => (intro w hSw; (try dsimp only at hSw); go_simp; try with_reducible rfl)
    try simp only [Act.put, List.setIfInBounds_toArray, List.set_cons_zero, List.set_cons_succ]
    refine wpAnyH_take (i := 10) (oi := { dst := some 17, op := Go.Op.load 33 (Go.Operand.tmp 3), type := 33, pos := "l10_paths.go:34", after := #[{ on := 9, ground := Go.Ground.guard }], guard := some (9, false) }) (v := ?vaf10) rfl (by kernel_rfl) (by kernel_rfl) (by kernel_rfl) (fun _ _ _ h => h) (Or.inl ⟨by rfl, ?haf10⟩) hHeld ?raf10
    case haf10 => (intro w hSw; (try dsimp only at hSw); go_simp; try with_reducible rfl)
    try simp only [Act.put, List.setIfInBounds_toArray, List.set_cons_zero, List.set_cons_succ]
    refine wpAnyH_take (i := 11) (oi := { dst := some 18, op := Go.Op.move (Go.Operand.tmp 2), type := 2, pos := "l10_paths.go:34", after := #[{ on := 9, ground := Go.Ground.guard }], guard := some (9, false) }) (v := ?vaf11) rfl (by kernel_rfl) (by kernel_rfl) (by kernel_rfl) (fun _ _ _ h => h) (Or.inl ⟨by rfl, ?haf11⟩) hHeld ?raf11
    case haf11 => (intro w hSw; (try dsimp only at hSw); go_simp; try with_reducible rfl)
    try simp only [Act.put, List.setIfInBounds_toArray, List.set_cons_zero, List.set_cons_succ]
    refine wpAnyH_ready (rs := [12]) (by kernel_rfl) (by simp) ?_
    refine AllReadyH.cons (o := { dst := some 19, op := Go.Op.call { callee := Go.Callee.value (Go.Operand.func 33), args := #[Go.Operand.tmp 17, Go.Operand.tmp 18], argTypes := #[33, 2] }, type := 4, pos := "l10_paths.go:34", after := #[{ on := 10, ground := Go.Ground.data }, { on := 11, ground := Go.Ground.data }, { on := 9, ground := Go.Ground.chain }, { on := 9, ground := Go.Ground.guard }], guard := some (9, false) }) rfl (fun K hK => ?_) AllReadyH.nil
    go_simp
    refine (l10RoadIs_r _ _ _ _ _ _ _ _ _ _ true _ hy).mono ?_
    rintro e w3 ⟨rfl, hbk⟩
    go_wp2_with fail
    refine hK.out _ _ (bel_step hHeld hbk) (fun hHeld' => ?_)
    clear hK K hHeld
    have hHeld := hHeld'
    clear hHeld'
    try simp only [Act.put, List.setIfInBounds_toArray, List.set_cons_zero, List.set_cons_succ]
    refine wpAnyH_take (i := 13) (oi := { dst := some 20, op := Go.Op.unOp Go.UnOp.not 4 (Go.Operand.tmp 19), type := 4, pos := "l10_paths.go:34", after := #[{ on := 12, ground := Go.Ground.data }, { on := 9, ground := Go.Ground.guard }], guard := some (9, false) }) (v := ?vaf13) rfl (by kernel_rfl) (by kernel_rfl) (by kernel_rfl) (fun _ _ _ h => h) (Or.inl ⟨by rfl, ?haf13⟩) hHeld ?raf13
    case haf13 => (intro w hSw; (try dsimp only at hSw); go_simp; try with_reducible rfl)
    try simp only [Act.put, List.setIfInBounds_toArray, List.set_cons_zero, List.set_cons_succ]
    refine wpAnyH_take (i := 14) (oi := { dst := some 21, op := Go.Op.pick (Go.Operand.tmp 16) (Go.Operand.const (Go.Value.bool true)) (Go.Operand.tmp 20), type := 4, pos := "l10_paths.go:34", after := #[{ on := 9, ground := Go.Ground.data }, { on := 13, ground := Go.Ground.data }], guard := none }) (v := ?vaf14) rfl (by kernel_rfl) (by kernel_rfl) (by kernel_rfl) (fun _ _ _ h => h) (Or.inl ⟨by rfl, ?haf14⟩) hHeld ?raf14
    case haf14 => (intro w hSw; (try dsimp only at hSw); go_simp; try with_reducible rfl)
    try simp only [Act.put, List.setIfInBounds_toArray, List.set_cons_zero, List.set_cons_succ]
    refine wpAnyH_take (i := 15) (oi := { dst := some 22, op := Go.Op.move (Go.Operand.tmp 21), type := 4, pos := "l10_paths.go:34", after := #[{ on := 14, ground := Go.Ground.data }, { on := 12, ground := Go.Ground.chain }], guard := none }) (v := ?vaf15) rfl (by kernel_rfl) (by kernel_rfl) (by kernel_rfl) (fun _ _ _ h => h) (Or.inl ⟨by rfl, ?haf15⟩) hHeld ?raf15
    case haf15 => (intro w hSw; (try dsimp only at hSw); go_simp; try with_reducible rfl)
    try simp only [Act.put, List.setIfInBounds_toArray, List.set_cons_zero, List.set_cons_succ]
    refine wpAnyH_take (i := 16) (oi := { dst := some 23, op := Go.Op.fieldAddr 33 (Go.Operand.tmp 3) 1, type := 0, pos := "l10_paths.go:34", after := #[{ on := 15, ground := Go.Ground.guard }], guard := some (15, false) }) (v := ?vaf16) rfl (by kernel_rfl) (by kernel_rfl) (by kernel_rfl) (fun _ _ _ h => h) (Or.inl ⟨by rfl, ?haf16⟩) hHeld ?raf16
    case haf16 => (intro w hSw; (try dsimp only at hSw); go_simp; try with_reducible rfl)
    try simp only [Act.put, List.setIfInBounds_toArray, List.set_cons_zero, List.set_cons_succ]
    refine wpAnyH_take (i := 17) (oi := { dst := some 24, op := Go.Op.load 30 (Go.Operand.tmp 23), type := 30, pos := "l10_paths.go:34", after := #[{ on := 16, ground := Go.Ground.data }, { on := 15, ground := Go.Ground.guard }], guard := some (15, false) }) (v := ?vaf17) rfl (by kernel_rfl) (by kernel_rfl) (by kernel_rfl) (fun _ _ _ h => h) (Or.inl ⟨by rfl, ?haf17⟩) hHeld ?raf17
    case haf17 => (intro w hSw; (try dsimp only at hSw); go_simp; try with_reducible rfl)
    try simp only [Act.put, List.setIfInBounds_toArray, List.set_cons_zero, List.set_cons_succ]
    refine wpAnyH_take (i := 18) (oi := { dst := some 25, op := Go.Op.move (Go.Operand.tmp 1), type := 2, pos := "l10_paths.go:34", after := #[{ on := 15, ground := Go.Ground.guard }], guard := some (15, false) }) (v := ?vaf18) rfl (by kernel_rfl) (by kernel_rfl) (by kernel_rfl) (fun _ _ _ h => h) (Or.inl ⟨by rfl, ?haf18⟩) hHeld ?raf18
    case haf18 => (intro w hSw; (try dsimp only at hSw); go_simp; try with_reducible rfl)
    try simp only [Act.put, List.setIfInBounds_toArray, List.set_cons_zero, List.set_cons_succ]
    refine wpAnyH_take (i := 19) (oi := { dst := some 26, op := Go.Op.indexAddr 30 (Go.Operand.tmp 24) (Go.Operand.tmp 25), type := 0, pos := "l10_paths.go:34", after := #[{ on := 17, ground := Go.Ground.data }, { on := 18, ground := Go.Ground.data }, { on := 15, ground := Go.Ground.guard }], guard := some (15, false) }) (v := ?vaf19) rfl (by kernel_rfl) (by kernel_rfl) (by kernel_rfl) (fun _ _ _ h => h) (Or.inl ⟨by rfl, ?haf19⟩) hHeld ?raf19
    case haf19 => (intro w hSw; (try dsimp only at hSw); go_simp; try with_reducible rfl)
    try simp only [Act.put, List.setIfInBounds_toArray, List.set_cons_zero, List.set_cons_succ]
    refine wpAnyH_take (i := 20) (oi := { dst := some 27, op := Go.Op.fieldAddr 57 (Go.Operand.tmp 26) 1, type := 0, pos := "l10_paths.go:34", after := #[{ on := 19, ground := Go.Ground.data }, { on := 15, ground := Go.Ground.guard }], guard := some (15, false) }) (v := ?vaf20) rfl (by kernel_rfl) (by kernel_rfl) (by kernel_rfl) (fun _ _ _ h => h) (Or.inl ⟨by rfl, ?haf20⟩) hHeld ?raf20
    case haf20 => (intro w hSw; (try dsimp only at hSw); go_simp; try with_reducible rfl)
    try simp only [Act.put, List.setIfInBounds_toArray, List.set_cons_zero, List.set_cons_succ]
    refine wpAnyH_take (i := 21) (oi := { dst := some 28, op := Go.Op.load 2 (Go.Operand.tmp 27), type := 2, pos := "l10_paths.go:34", after := #[{ on := 20, ground := Go.Ground.data }, { on := 15, ground := Go.Ground.guard }], guard := some (15, false) }) (v := ?vaf21) rfl (by kernel_rfl) (by kernel_rfl) (by kernel_rfl) (fun _ _ _ h => h) (Or.inl ⟨by rfl, ?haf21⟩) hHeld ?raf21
    case haf21 => (intro w hSw; (try dsimp only at hSw); go_simp; try with_reducible rfl)
    try simp only [Act.put, List.setIfInBounds_toArray, List.set_cons_zero, List.set_cons_succ]
    refine wpAnyH_take (i := 22) (oi := { dst := some 29, op := Go.Op.fieldAddr 33 (Go.Operand.tmp 3) 1, type := 0, pos := "l10_paths.go:34", after := #[{ on := 15, ground := Go.Ground.guard }], guard := some (15, false) }) (v := ?vaf22) rfl (by kernel_rfl) (by kernel_rfl) (by kernel_rfl) (fun _ _ _ h => h) (Or.inl ⟨by rfl, ?haf22⟩) hHeld ?raf22
    case haf22 => (intro w hSw; (try dsimp only at hSw); go_simp; try with_reducible rfl)
    try simp only [Act.put, List.setIfInBounds_toArray, List.set_cons_zero, List.set_cons_succ]
    refine wpAnyH_take (i := 23) (oi := { dst := some 30, op := Go.Op.load 30 (Go.Operand.tmp 29), type := 30, pos := "l10_paths.go:34", after := #[{ on := 22, ground := Go.Ground.data }, { on := 15, ground := Go.Ground.guard }], guard := some (15, false) }) (v := ?vaf23) rfl (by kernel_rfl) (by kernel_rfl) (by kernel_rfl) (fun _ _ _ h => h) (Or.inl ⟨by rfl, ?haf23⟩) hHeld ?raf23
    case haf23 => (intro w hSw; (try dsimp only at hSw); go_simp; try with_reducible rfl)
    try simp only [Act.put, List.setIfInBounds_toArray, List.set_cons_zero, List.set_cons_succ]
    refine wpAnyH_take (i := 24) (oi := { dst := some 31, op := Go.Op.move (Go.Operand.tmp 2), type := 2, pos := "l10_paths.go:34", after := #[{ on := 15, ground := Go.Ground.guard }], guard := some (15, false) }) (v := ?vaf24) rfl (by kernel_rfl) (by kernel_rfl) (by kernel_rfl) (fun _ _ _ h => h) (Or.inl ⟨by rfl, ?haf24⟩) hHeld ?raf24
    case haf24 => (intro w hSw; (try dsimp only at hSw); go_simp; try with_reducible rfl)
    try simp only [Act.put, List.setIfInBounds_toArray, List.set_cons_zero, List.set_cons_succ]
    refine wpAnyH_take (i := 25) (oi := { dst := some 32, op := Go.Op.indexAddr 30 (Go.Operand.tmp 30) (Go.Operand.tmp 31), type := 0, pos := "l10_paths.go:34", after := #[{ on := 23, ground := Go.Ground.data }, { on := 24, ground := Go.Ground.data }, { on := 15, ground := Go.Ground.guard }], guard := some (15, false) }) (v := ?vaf25) rfl (by kernel_rfl) (by kernel_rfl) (by kernel_rfl) (fun _ _ _ h => h) (Or.inl ⟨by rfl, ?haf25⟩) hHeld ?raf25
    case haf25 => (intro w hSw; (try dsimp only at hSw); go_simp; try with_reducible rfl)
    try simp only [Act.put, List.setIfInBounds_toArray, List.set_cons_zero, List.set_cons_succ]
    refine wpAnyH_take (i := 26) (oi := { dst := some 33, op := Go.Op.fieldAddr 57 (Go.Operand.tmp 32) 0, type := 0, pos := "l10_paths.go:34", after := #[{ on := 25, ground := Go.Ground.data }, { on := 15, ground := Go.Ground.guard }], guard := some (15, false) }) (v := ?vaf26) rfl (by kernel_rfl) (by kernel_rfl) (by kernel_rfl) (fun _ _ _ h => h) (Or.inl ⟨by rfl, ?haf26⟩) hHeld ?raf26
    case haf26 => (intro w hSw; (try dsimp only at hSw); go_simp; try with_reducible rfl)
    try simp only [Act.put, List.setIfInBounds_toArray, List.set_cons_zero, List.set_cons_succ]
    refine wpAnyH_take (i := 27) (oi := { dst := some 34, op := Go.Op.load 2 (Go.Operand.tmp 33), type := 2, pos := "l10_paths.go:34", after := #[{ on := 26, ground := Go.Ground.data }, { on := 15, ground := Go.Ground.guard }], guard := some (15, false) }) (v := ?vaf27) rfl (by kernel_rfl) (by kernel_rfl) (by kernel_rfl) (fun _ _ _ h => h) (Or.inl ⟨by rfl, ?haf27⟩) hHeld ?raf27
    case haf27 => (intro w hSw; (try dsimp only at hSw); go_simp; try with_reducible rfl)
    try simp only [Act.put, List.setIfInBounds_toArray, List.set_cons_zero, List.set_cons_succ]
    refine wpAnyH_take (i := 28) (oi := { dst := some 35, op := Go.Op.binOp Go.BinOp.neq 2 (Go.Operand.tmp 28) (Go.Operand.tmp 34) 2, type := 4, pos := "l10_paths.go:34", after := #[{ on := 21, ground := Go.Ground.data }, { on := 27, ground := Go.Ground.data }, { on := 15, ground := Go.Ground.guard }], guard := some (15, false) }) (v := ?vaf28) rfl (by kernel_rfl) (by kernel_rfl) (by kernel_rfl) (fun _ _ _ h => h) (Or.inl ⟨by rfl, ?haf28⟩) hHeld ?raf28
    case haf28 => (intro w hSw; (try dsimp only at hSw); go_simp; try with_reducible rfl)
    try simp only [Act.put, List.setIfInBounds_toArray, List.set_cons_zero, List.set_cons_succ]
    refine wpAnyH_take (i := 29) (oi := { dst := some 36, op := Go.Op.pick (Go.Operand.tmp 22) (Go.Operand.const (Go.Value.bool true)) (Go.Operand.tmp 35), type := 4, pos := "l10_paths.go:34", after := #[{ on := 15, ground := Go.Ground.data }, { on := 28, ground := Go.Ground.data }], guard := none }) (v := ?vaf29) rfl (by kernel_rfl) (by kernel_rfl) (by kernel_rfl) (fun _ _ _ h => h) (Or.inl ⟨by rfl, ?haf29⟩) hHeld ?raf29
    case haf29 => (intro w hSw; (try dsimp only at hSw); go_simp; try with_reducible rfl)
    try simp only [Act.put, List.setIfInBounds_toArray, List.set_cons_zero, List.set_cons_succ]
    refine wpAnyH_done (by kernel_rfl) ?_ _
    refine NoPanic.normal ?_
    go_wp2
    go_ret
    exact ⟨by rw [HF.out]; rfl, bel_step hBW hHeld⟩
end Go.Proofs.YtponmbjflablcaaDoor

namespace Go.Proofs.YtponmbjflablcaaDoor
open Go.RowKit Go.Maps

theorem int_at {w : World} {b off : Nat} {l : List Int} {bs : List Nat} (h : Ints w (some ⟨b, off, none⟩) l bs) {k : Nat} (hk : k < l.length) : b < w.heap.size ∧ w.cell? ⟨b, off + k, none⟩ = some (.int .i64 l[k]) := by
  obtain ⟨b', off', f, e, hb, hx⟩ := h.out hk
  injection e with e
  injection e with e1 e2
  subst e1 e2
  have := (hx k hk).2.2
  rw [Nat.mul_one] at this
  exact ⟨hb, this⟩
theorem road_at {w : World} {b off : Nat} {g : GraphD} {bs : List Nat} (h : RoadL w (some ⟨b, off, none⟩) g.roads bs) {i : Nat} (hi : i < g.roads.length) :
    w.cell? ⟨b, off + i * 6, none⟩ = some (.int .i64 (rdAt g i).fr) ∧ w.cell? ⟨b, off + i * 6 + 1, none⟩ = some (.int .i64 (rdAt g i).to) ∧ w.cell? ⟨b, off + i * 6 + 3, none⟩ = some (.int .i64 (rdAt g i).time) := by
  obtain ⟨b', off', f, e, _, hx⟩ := h.out hi
  injection e with e
  injection e with e1 e2
  subst e1 e2
  rw [rdAt_eq hi]
  obtain ⟨_, _, _, _, _, _, _, y0, y1, _, y3, _⟩ := hx i hi
  exact ⟨y0, y1, y3⟩

set_option maxRecDepth 100000 in
set_option maxHeartbeats 4000000 in
theorem specTime_any (a0 : Option Addr) (n0 c0 : Nat) (a1 : Option Addr) (n1 c1 : Nat) (a2 : Option Addr) (n2 c2 : Nat) (g : GraphD) (b0 b1 b2 : List Nat) (ar : Option Addr) (m cr : Nat) (l : List Int) (br : List Nat) (s t : Int) (w : World) (t0 : SpotL w a0 g.places b0) (t1 : RoadL w a1 g.roads b1) (t2 : BanL w a2 g.bans b2) (e0 : g.places.length = n0) (e1 : g.roads.length = n1) (e2 : g.bans.length = n2) (hP : graphP g) (hI : Ints w ar l br) (hl : l.length = m) (hm : m ≤ 1048576) :
    Calls Tryd.prog 45 #[gphV a0 n0 c0 a1 n1 c1 a2 n2 c2, .slice ar m cr, .int .i64 s, .int .i64 t] w fun e w' => e = .returned (.int .i64 (paE g l s t)) ∧ Bel w w' := by
  have H0 : Hid (g.places.length = n0) := e0
  have H1 : Hid (g.roads.length = n1) := e1
  have H2 : Hid (g.bans.length = n2) := e2
  have HL : Hid (l.length = m) := hl
  have HP : Hid (graphP g) := hP
  obtain ⟨W, HW⟩ : ∃ W, Hid (W = w.alloc (.cells #[.slice a0 n0 c0, .slice a1 n1 c1, .slice a2 n2 c2] 33)) := ⟨_, (rfl : w.alloc (.cells #[.slice a0 n0 c0, .slice a1 n1 c1, .slice a2 n2 c2] 33) = _)⟩
  have hBW : Bel w W := by rw [HW.out]; exact bel_alloc (Bel.refl _) _
  have XG : Hid (Blk W w.heap.size [.slice a0 n0 c0, .slice a1 n1 c1, .slice a2 n2 c2]) := by rw [HW.out]; exact Blk.new w [.slice a0 n0 c0, .slice a1 n1 c1, .slice a2 n2 c2] _
  obtain ⟨R, HR⟩ : ∃ R, Hid (R = paE g l s t) := ⟨_, (rfl : paE g l s t = _)⟩
  rw [← HR.out]
  clear e0 e1 e2 hl hP
  go_enter Tryd.func45, Tryd.ntmps45
  go_wp2
  rw [← HW.out]
  go_loopw [9, 10, 11, 12] (fun tm pl ix _ wr => ∃ (k : Nat) (a b : Int), k ≤ m ∧ ix = .int .i64 k ∧ tm = .int .i64 a ∧ pl = .int .i64 b ∧ Hid (paS g l s k = some (a, b)) ∧ (0 ≤ a ∧ a ≤ k * 1000020) ∧ Bel W wr) (fun _ _ ix _ _ => m - (intOf ix).toNat)
  case atStart => exact ⟨0, 0, s, Nat.zero_le _, rfl, rfl, rfl, rfl, ⟨by omega, by omega⟩, Bel.refl _⟩
  case round =>
    obtain ⟨k, a, bb, hk, rfl, rfl, rfl, HS, ⟨ha0, ha1⟩, hBr⟩ := hrel
    by_cases hlt : k < m
    · have hkl : k < l.length := by rw [HL.out]; exact hlt
      obtain ⟨b, off, f, rfl, hbr, _⟩ := hI.out hkl
      obtain ⟨x, Hx⟩ : ∃ x, Hid (l[k] = x) := ⟨_, (rfl : l[k] = _)⟩
      have hltI : (k : Int) < (m : Int) := by omega
      have g0 : Bel wr wr := Bel.refl _
      have hS1 : ∀ w', Bel wr w' → w'.cell? ⟨w.heap.size, 0, none⟩ = some (.slice a0 n0 c0) ∧ w'.cell? ⟨w.heap.size, 1, none⟩ = some (.slice a1 n1 c1) ∧ w'.cell? ⟨w.heap.size, 2, none⟩ = some (.slice a2 n2 c2) ∧ w'.cell? ⟨b, off + k, none⟩ = some (.int .i64 x) := fun w' h => by
        have hX := XG.out.bel (bel_step hBr h)
        have h1 := (int_at (hI.bel intE (bel_step hBW (bel_step hBr h))) hkl).2
        rw [Hx.out] at h1
        exact ⟨hX.cell 0 (by simp), hX.cell 1 (by simp), hX.cell 2 (by simp), h1⟩
      rcases Bool.eq_false_or_eq_true (inN n1 x) with hx | hx
      rotate_left
      · have HF : Hid (R = -1) := (by rw [HR.out]; exact paE_none (by rw [HL.out]; exact hlt) (paS_out hkl HS.out (by rw [H1.out, Hx.out]; exact hx)) : R = -1)
        go_upto_region 6 with fail
        refine wp_region_noPanic ?_
        refine wp_region_held_drew (S := fun w' => Bel wr w') (by kernel_rfl) (Bel.drew g0) (fun hHeld => ?_)
        refine wpAnyH_take (i := 0) (oi := { dst := some 20, op := Go.Op.load 33 (Go.Operand.tmp 4), type := 33, pos := "l10_paths.go:44", after := #[], guard := none }) (v := ?vab0) rfl (by kernel_rfl) (by kernel_rfl) (by kernel_rfl) (fun _ _ _ h => h) (Or.inl ⟨by rfl, ?hab0⟩) hHeld ?rab0
        case hab0 => (intro w hSw; (try dsimp only at hSw); go_simp; try with_reducible rfl)
        try simp only [Act.put, List.setIfInBounds_toArray, List.set_cons_zero, List.set_cons_succ]
        refine wpAnyH_take (i := 1) (oi := { dst := some 21, op := Go.Op.move (Go.Operand.tmp 1), type := 37, pos := "l10_paths.go:44", after := #[], guard := none }) (v := ?vab1) rfl (by kernel_rfl) (by kernel_rfl) (by kernel_rfl) (fun _ _ _ h => h) (Or.inl ⟨by rfl, ?hab1⟩) hHeld ?rab1
        case hab1 => (intro w hSw; (try dsimp only at hSw); go_simp; try with_reducible rfl)
        try simp only [Act.put, List.setIfInBounds_toArray, List.set_cons_zero, List.set_cons_succ]
        refine wpAnyH_take (i := 2) (oi := { dst := some 22, op := Go.Op.move (Go.Operand.tmp 11), type := 3, pos := "l10_paths.go:44", after := #[], guard := none }) (v := ?vab2) rfl (by kernel_rfl) (by kernel_rfl) (by kernel_rfl) (fun _ _ _ h => h) (Or.inl ⟨by rfl, ?hab2⟩) hHeld ?rab2
        case hab2 => (intro w hSw; (try dsimp only at hSw); go_simp; try with_reducible rfl)
        try simp only [Act.put, List.setIfInBounds_toArray, List.set_cons_zero, List.set_cons_succ]
        refine wpAnyH_take (i := 3) (oi := { dst := some 23, op := Go.Op.indexAddr 37 (Go.Operand.tmp 21) (Go.Operand.tmp 22), type := 0, pos := "l10_paths.go:44", after := #[{ on := 1, ground := Go.Ground.data }, { on := 2, ground := Go.Ground.data }], guard := none }) (v := ?vab3) rfl (by kernel_rfl) (by kernel_rfl) (by kernel_rfl) (fun _ _ _ h => h) (Or.inl ⟨by rfl, ?hab3⟩) hHeld ?rab3
        case hab3 => (intro w hSw; (try dsimp only at hSw); go_simp; try with_reducible rfl)
        try simp only [Act.put, List.setIfInBounds_toArray, List.set_cons_zero, List.set_cons_succ]
        refine wpAnyH_take (i := 4) (oi := { dst := some 24, op := Go.Op.load 2 (Go.Operand.tmp 23), type := 2, pos := "l10_paths.go:44", after := #[{ on := 3, ground := Go.Ground.data }], guard := none }) (v := ?vab4) rfl (by kernel_rfl) (by kernel_rfl) (by kernel_rfl) (fun _ _ _ h => h) (Or.inl ⟨by rfl, ?hab4⟩) hHeld ?rab4
        case hab4 => (intro w hSw; (try dsimp only at hSw); go_simp; try with_reducible rfl)
        try simp only [Act.put, List.setIfInBounds_toArray, List.set_cons_zero, List.set_cons_succ]
        refine wpAnyH_ready (rs := [5]) (by kernel_rfl) (by simp) ?_
        refine AllReadyH.cons (o := { dst := some 25, op := Go.Op.call { callee := Go.Callee.value (Go.Operand.func 33), args := #[Go.Operand.tmp 20, Go.Operand.tmp 24], argTypes := #[33, 2] }, type := 4, pos := "l10_paths.go:44", after := #[{ on := 0, ground := Go.Ground.data }, { on := 4, ground := Go.Ground.data }], guard := none }) rfl (fun K hK => ?_) AllReadyH.nil
        go_simp
        refine (l10RoadIs_r _ _ _ _ _ _ _ _ _ _ false _ hx).mono ?_
        rintro e w2 ⟨rfl, hbk⟩
        go_wp2_with fail
        refine hK.out _ _ (bel_step hHeld hbk) (fun hHeld' => ?_)
        clear hK K hHeld
        have hHeld := hHeld'
        clear hHeld'
        try simp only [Act.put, List.setIfInBounds_toArray, List.set_cons_zero, List.set_cons_succ]
        refine wpAnyH_take (i := 6) (oi := { dst := some 26, op := Go.Op.unOp Go.UnOp.not 4 (Go.Operand.tmp 25), type := 4, pos := "l10_paths.go:44", after := #[{ on := 5, ground := Go.Ground.data }], guard := none }) (v := ?vab6) rfl (by kernel_rfl) (by kernel_rfl) (by kernel_rfl) (fun _ _ _ h => h) (Or.inl ⟨by rfl, ?hab6⟩) hHeld ?rab6
        case hab6 => (intro w hSw; (try dsimp only at hSw); go_simp; try with_reducible rfl)
        try simp only [Act.put, List.setIfInBounds_toArray, List.set_cons_zero, List.set_cons_succ]
        refine wpAnyH_take (i := 7) (oi := { dst := some 27, op := Go.Op.move (Go.Operand.tmp 26), type := 4, pos := "l10_paths.go:44", after := #[{ on := 6, ground := Go.Ground.data }, { on := 5, ground := Go.Ground.chain }], guard := none }) (v := ?vab7) rfl (by kernel_rfl) (by kernel_rfl) (by kernel_rfl) (fun _ _ _ h => h) (Or.inl ⟨by rfl, ?hab7⟩) hHeld ?rab7
        case hab7 => (intro w hSw; (try dsimp only at hSw); go_simp; try with_reducible rfl)
        try simp only [Act.put, List.setIfInBounds_toArray, List.set_cons_zero, List.set_cons_succ]
        refine wpAnyH_take (i := 8) (oi := { dst := some 28, op := Go.Op.fieldAddr 33 (Go.Operand.tmp 4) 1, type := 0, pos := "l10_paths.go:44", after := #[{ on := 7, ground := Go.Ground.guard }], guard := some (7, false) }) (v := undef) rfl (by kernel_rfl) (by kernel_rfl) (by kernel_rfl) (fun _ _ _ h => h) (Or.inr ⟨by rfl, rfl⟩) hHeld ?_
        try simp only [Act.put, List.setIfInBounds_toArray, List.set_cons_zero, List.set_cons_succ]
        refine wpAnyH_take (i := 9) (oi := { dst := some 29, op := Go.Op.load 30 (Go.Operand.tmp 28), type := 30, pos := "l10_paths.go:44", after := #[{ on := 8, ground := Go.Ground.data }, { on := 7, ground := Go.Ground.guard }], guard := some (7, false) }) (v := undef) rfl (by kernel_rfl) (by kernel_rfl) (by kernel_rfl) (fun _ _ _ h => h) (Or.inr ⟨by rfl, rfl⟩) hHeld ?_
        try simp only [Act.put, List.setIfInBounds_toArray, List.set_cons_zero, List.set_cons_succ]
        refine wpAnyH_take (i := 10) (oi := { dst := some 30, op := Go.Op.move (Go.Operand.tmp 1), type := 37, pos := "l10_paths.go:44", after := #[{ on := 7, ground := Go.Ground.guard }], guard := some (7, false) }) (v := undef) rfl (by kernel_rfl) (by kernel_rfl) (by kernel_rfl) (fun _ _ _ h => h) (Or.inr ⟨by rfl, rfl⟩) hHeld ?_
        try simp only [Act.put, List.setIfInBounds_toArray, List.set_cons_zero, List.set_cons_succ]
        refine wpAnyH_take (i := 11) (oi := { dst := some 31, op := Go.Op.move (Go.Operand.tmp 11), type := 3, pos := "l10_paths.go:44", after := #[{ on := 7, ground := Go.Ground.guard }], guard := some (7, false) }) (v := undef) rfl (by kernel_rfl) (by kernel_rfl) (by kernel_rfl) (fun _ _ _ h => h) (Or.inr ⟨by rfl, rfl⟩) hHeld ?_
        try simp only [Act.put, List.setIfInBounds_toArray, List.set_cons_zero, List.set_cons_succ]
        refine wpAnyH_take (i := 12) (oi := { dst := some 32, op := Go.Op.indexAddr 37 (Go.Operand.tmp 30) (Go.Operand.tmp 31), type := 0, pos := "l10_paths.go:44", after := #[{ on := 10, ground := Go.Ground.data }, { on := 11, ground := Go.Ground.data }, { on := 7, ground := Go.Ground.guard }], guard := some (7, false) }) (v := undef) rfl (by kernel_rfl) (by kernel_rfl) (by kernel_rfl) (fun _ _ _ h => h) (Or.inr ⟨by rfl, rfl⟩) hHeld ?_
        try simp only [Act.put, List.setIfInBounds_toArray, List.set_cons_zero, List.set_cons_succ]
        refine wpAnyH_take (i := 13) (oi := { dst := some 33, op := Go.Op.load 2 (Go.Operand.tmp 32), type := 2, pos := "l10_paths.go:44", after := #[{ on := 12, ground := Go.Ground.data }, { on := 7, ground := Go.Ground.guard }], guard := some (7, false) }) (v := undef) rfl (by kernel_rfl) (by kernel_rfl) (by kernel_rfl) (fun _ _ _ h => h) (Or.inr ⟨by rfl, rfl⟩) hHeld ?_
        try simp only [Act.put, List.setIfInBounds_toArray, List.set_cons_zero, List.set_cons_succ]
        refine wpAnyH_take (i := 14) (oi := { dst := some 34, op := Go.Op.indexAddr 30 (Go.Operand.tmp 29) (Go.Operand.tmp 33), type := 0, pos := "l10_paths.go:44", after := #[{ on := 9, ground := Go.Ground.data }, { on := 13, ground := Go.Ground.data }, { on := 7, ground := Go.Ground.guard }], guard := some (7, false) }) (v := undef) rfl (by kernel_rfl) (by kernel_rfl) (by kernel_rfl) (fun _ _ _ h => h) (Or.inr ⟨by rfl, rfl⟩) hHeld ?_
        try simp only [Act.put, List.setIfInBounds_toArray, List.set_cons_zero, List.set_cons_succ]
        refine wpAnyH_take (i := 15) (oi := { dst := some 35, op := Go.Op.fieldAddr 57 (Go.Operand.tmp 34) 0, type := 0, pos := "l10_paths.go:44", after := #[{ on := 14, ground := Go.Ground.data }, { on := 7, ground := Go.Ground.guard }], guard := some (7, false) }) (v := undef) rfl (by kernel_rfl) (by kernel_rfl) (by kernel_rfl) (fun _ _ _ h => h) (Or.inr ⟨by rfl, rfl⟩) hHeld ?_
        try simp only [Act.put, List.setIfInBounds_toArray, List.set_cons_zero, List.set_cons_succ]
        refine wpAnyH_take (i := 16) (oi := { dst := some 36, op := Go.Op.load 2 (Go.Operand.tmp 35), type := 2, pos := "l10_paths.go:44", after := #[{ on := 15, ground := Go.Ground.data }, { on := 7, ground := Go.Ground.guard }], guard := some (7, false) }) (v := undef) rfl (by kernel_rfl) (by kernel_rfl) (by kernel_rfl) (fun _ _ _ h => h) (Or.inr ⟨by rfl, rfl⟩) hHeld ?_
        try simp only [Act.put, List.setIfInBounds_toArray, List.set_cons_zero, List.set_cons_succ]
        refine wpAnyH_take (i := 17) (oi := { dst := some 37, op := Go.Op.move (Go.Operand.tmp 10), type := 2, pos := "l10_paths.go:44", after := #[{ on := 7, ground := Go.Ground.guard }], guard := some (7, false) }) (v := undef) rfl (by kernel_rfl) (by kernel_rfl) (by kernel_rfl) (fun _ _ _ h => h) (Or.inr ⟨by rfl, rfl⟩) hHeld ?_
        try simp only [Act.put, List.setIfInBounds_toArray, List.set_cons_zero, List.set_cons_succ]
        refine wpAnyH_take (i := 18) (oi := { dst := some 38, op := Go.Op.binOp Go.BinOp.neq 2 (Go.Operand.tmp 36) (Go.Operand.tmp 37) 2, type := 4, pos := "l10_paths.go:44", after := #[{ on := 16, ground := Go.Ground.data }, { on := 17, ground := Go.Ground.data }, { on := 7, ground := Go.Ground.guard }], guard := some (7, false) }) (v := undef) rfl (by kernel_rfl) (by kernel_rfl) (by kernel_rfl) (fun _ _ _ h => h) (Or.inr ⟨by rfl, rfl⟩) hHeld ?_
        try simp only [Act.put, List.setIfInBounds_toArray, List.set_cons_zero, List.set_cons_succ]
        refine wpAnyH_take (i := 19) (oi := { dst := some 39, op := Go.Op.pick (Go.Operand.tmp 27) (Go.Operand.const (Go.Value.bool true)) (Go.Operand.tmp 38), type := 4, pos := "l10_paths.go:44", after := #[{ on := 7, ground := Go.Ground.data }, { on := 18, ground := Go.Ground.data }], guard := none }) (v := ?vab19) rfl (by kernel_rfl) (by kernel_rfl) (by kernel_rfl) (fun _ _ _ h => h) (Or.inl ⟨by rfl, ?hab19⟩) hHeld ?rab19
        case hab19 => (intro w hSw; (try dsimp only at hSw); go_simp; try with_reducible rfl)
        try simp only [Act.put, List.setIfInBounds_toArray, List.set_cons_zero, List.set_cons_succ]
        refine wpAnyH_done (by kernel_rfl) ?_ _
        refine NoPanic.normal ?_
        go_wp2
        go_ret
        exact ⟨by rw [HF.out]; rfl, bel_step hBW (bel_step hBr hHeld)⟩
      obtain ⟨i, hi, rfl⟩ := inN_nat hx
      have hil : i < g.roads.length := by rw [H1.out]; exact hi
      obtain ⟨b', off', f', rfl, hb', _⟩ := t1.out hil
      have hro := roadB_out (HP.out.2.2.1 i hil)
      obtain ⟨F, HFr⟩ : ∃ x, Hid ((rdAt g i).fr = x) := ⟨_, (rfl : (rdAt g i).fr = _)⟩
      obtain ⟨D, HTo⟩ : ∃ x, Hid ((rdAt g i).to = x) := ⟨_, (rfl : (rdAt g i).to = _)⟩
      obtain ⟨T, HTi⟩ : ∃ x, Hid ((rdAt g i).time = x) := ⟨_, (rfl : (rdAt g i).time = _)⟩
      have hT0 : 1 ≤ T ∧ T ≤ 1000000 := by rw [← HTi.out, rdAt_eq hil]; exact hro.2.2.2.1
      obtain ⟨hT0, hT1⟩ := hT0
      have hS2 : ∀ w', Bel wr w' → w'.cell? ⟨b', off' + i * 6, none⟩ = some (.int .i64 F) ∧ w'.cell? ⟨b', off' + i * 6 + 1, none⟩ = some (.int .i64 D) ∧ w'.cell? ⟨b', off' + i * 6 + 3, none⟩ = some (.int .i64 T) := fun w' h => by
        rw [← HFr.out, ← HTo.out, ← HTi.out]
        exact road_at (t1.bel roadE (bel_step hBW (bel_step hBr h))) hil
      have hiI : (i : Int) < (n1 : Int) := by omega
      clear hro
      by_cases hfe : F = bb
      rotate_left
      · have hfb : (F != bb) = true := by simp [hfe]
        have HF : Hid (R = -1) := (by rw [HR.out]; exact paE_none (by rw [HL.out]; exact hlt) (paS_apart hkl HS.out Hx.out (by rw [HFr.out]; exact hfe)) : R = -1)
        go_upto_region 6 with fail
        refine wp_region_noPanic ?_
        refine wp_region_held_drew (S := fun w' => Bel wr w') (by kernel_rfl) (Bel.drew g0) (fun hHeld => ?_)
        refine wpAnyH_take (i := 0) (oi := { dst := some 20, op := Go.Op.load 33 (Go.Operand.tmp 4), type := 33, pos := "l10_paths.go:44", after := #[], guard := none }) (v := ?vac0) rfl (by kernel_rfl) (by kernel_rfl) (by kernel_rfl) (fun _ _ _ h => h) (Or.inl ⟨by rfl, ?hac0⟩) hHeld ?rac0
        case hac0 => (intro w hSw; (try dsimp only at hSw); go_simp; try with_reducible rfl)
        try simp only [Act.put, List.setIfInBounds_toArray, List.set_cons_zero, List.set_cons_succ]
        refine wpAnyH_take (i := 1) (oi := { dst := some 21, op := Go.Op.move (Go.Operand.tmp 1), type := 37, pos := "l10_paths.go:44", after := #[], guard := none }) (v := ?vac1) rfl (by kernel_rfl) (by kernel_rfl) (by kernel_rfl) (fun _ _ _ h => h) (Or.inl ⟨by rfl, ?hac1⟩) hHeld ?rac1
        case hac1 => (intro w hSw; (try dsimp only at hSw); go_simp; try with_reducible rfl)
        try simp only [Act.put, List.setIfInBounds_toArray, List.set_cons_zero, List.set_cons_succ]
        refine wpAnyH_take (i := 2) (oi := { dst := some 22, op := Go.Op.move (Go.Operand.tmp 11), type := 3, pos := "l10_paths.go:44", after := #[], guard := none }) (v := ?vac2) rfl (by kernel_rfl) (by kernel_rfl) (by kernel_rfl) (fun _ _ _ h => h) (Or.inl ⟨by rfl, ?hac2⟩) hHeld ?rac2
        case hac2 => (intro w hSw; (try dsimp only at hSw); go_simp; try with_reducible rfl)
        try simp only [Act.put, List.setIfInBounds_toArray, List.set_cons_zero, List.set_cons_succ]
        refine wpAnyH_take (i := 3) (oi := { dst := some 23, op := Go.Op.indexAddr 37 (Go.Operand.tmp 21) (Go.Operand.tmp 22), type := 0, pos := "l10_paths.go:44", after := #[{ on := 1, ground := Go.Ground.data }, { on := 2, ground := Go.Ground.data }], guard := none }) (v := ?vac3) rfl (by kernel_rfl) (by kernel_rfl) (by kernel_rfl) (fun _ _ _ h => h) (Or.inl ⟨by rfl, ?hac3⟩) hHeld ?rac3
        case hac3 => (intro w hSw; (try dsimp only at hSw); go_simp; try with_reducible rfl)
        try simp only [Act.put, List.setIfInBounds_toArray, List.set_cons_zero, List.set_cons_succ]
        refine wpAnyH_take (i := 4) (oi := { dst := some 24, op := Go.Op.load 2 (Go.Operand.tmp 23), type := 2, pos := "l10_paths.go:44", after := #[{ on := 3, ground := Go.Ground.data }], guard := none }) (v := ?vac4) rfl (by kernel_rfl) (by kernel_rfl) (by kernel_rfl) (fun _ _ _ h => h) (Or.inl ⟨by rfl, ?hac4⟩) hHeld ?rac4
        case hac4 => (intro w hSw; (try dsimp only at hSw); go_simp; try with_reducible rfl)
        try simp only [Act.put, List.setIfInBounds_toArray, List.set_cons_zero, List.set_cons_succ]
        refine wpAnyH_ready (rs := [5]) (by kernel_rfl) (by simp) ?_
        refine AllReadyH.cons (o := { dst := some 25, op := Go.Op.call { callee := Go.Callee.value (Go.Operand.func 33), args := #[Go.Operand.tmp 20, Go.Operand.tmp 24], argTypes := #[33, 2] }, type := 4, pos := "l10_paths.go:44", after := #[{ on := 0, ground := Go.Ground.data }, { on := 4, ground := Go.Ground.data }], guard := none }) rfl (fun K hK => ?_) AllReadyH.nil
        go_simp
        refine (l10RoadIs_r _ _ _ _ _ _ _ _ _ _ true _ hx).mono ?_
        rintro e w2 ⟨rfl, hbk⟩
        go_wp2_with fail
        refine hK.out _ _ (bel_step hHeld hbk) (fun hHeld' => ?_)
        clear hK K hHeld
        have hHeld := hHeld'
        clear hHeld'
        try simp only [Act.put, List.setIfInBounds_toArray, List.set_cons_zero, List.set_cons_succ]
        refine wpAnyH_take (i := 6) (oi := { dst := some 26, op := Go.Op.unOp Go.UnOp.not 4 (Go.Operand.tmp 25), type := 4, pos := "l10_paths.go:44", after := #[{ on := 5, ground := Go.Ground.data }], guard := none }) (v := ?vac6) rfl (by kernel_rfl) (by kernel_rfl) (by kernel_rfl) (fun _ _ _ h => h) (Or.inl ⟨by rfl, ?hac6⟩) hHeld ?rac6
        case hac6 => (intro w hSw; (try dsimp only at hSw); go_simp; try with_reducible rfl)
        try simp only [Act.put, List.setIfInBounds_toArray, List.set_cons_zero, List.set_cons_succ]
        refine wpAnyH_take (i := 7) (oi := { dst := some 27, op := Go.Op.move (Go.Operand.tmp 26), type := 4, pos := "l10_paths.go:44", after := #[{ on := 6, ground := Go.Ground.data }, { on := 5, ground := Go.Ground.chain }], guard := none }) (v := ?vac7) rfl (by kernel_rfl) (by kernel_rfl) (by kernel_rfl) (fun _ _ _ h => h) (Or.inl ⟨by rfl, ?hac7⟩) hHeld ?rac7
        case hac7 => (intro w hSw; (try dsimp only at hSw); go_simp; try with_reducible rfl)
        try simp only [Act.put, List.setIfInBounds_toArray, List.set_cons_zero, List.set_cons_succ]
        refine wpAnyH_take (i := 8) (oi := { dst := some 28, op := Go.Op.fieldAddr 33 (Go.Operand.tmp 4) 1, type := 0, pos := "l10_paths.go:44", after := #[{ on := 7, ground := Go.Ground.guard }], guard := some (7, false) }) (v := ?vac8) rfl (by kernel_rfl) (by kernel_rfl) (by kernel_rfl) (fun _ _ _ h => h) (Or.inl ⟨by rfl, ?hac8⟩) hHeld ?rac8
        case hac8 => (intro w hSw; (try dsimp only at hSw); go_simp; try with_reducible rfl)
        try simp only [Act.put, List.setIfInBounds_toArray, List.set_cons_zero, List.set_cons_succ]
        refine wpAnyH_take (i := 9) (oi := { dst := some 29, op := Go.Op.load 30 (Go.Operand.tmp 28), type := 30, pos := "l10_paths.go:44", after := #[{ on := 8, ground := Go.Ground.data }, { on := 7, ground := Go.Ground.guard }], guard := some (7, false) }) (v := ?vac9) rfl (by kernel_rfl) (by kernel_rfl) (by kernel_rfl) (fun _ _ _ h => h) (Or.inl ⟨by rfl, ?hac9⟩) hHeld ?rac9
        case hac9 => (intro w hSw; (try dsimp only at hSw); go_simp; try with_reducible rfl)
        try simp only [Act.put, List.setIfInBounds_toArray, List.set_cons_zero, List.set_cons_succ]
        refine wpAnyH_take (i := 10) (oi := { dst := some 30, op := Go.Op.move (Go.Operand.tmp 1), type := 37, pos := "l10_paths.go:44", after := #[{ on := 7, ground := Go.Ground.guard }], guard := some (7, false) }) (v := ?vac10) rfl (by kernel_rfl) (by kernel_rfl) (by kernel_rfl) (fun _ _ _ h => h) (Or.inl ⟨by rfl, ?hac10⟩) hHeld ?rac10
        case hac10 => (intro w hSw; (try dsimp only at hSw); go_simp; try with_reducible rfl)
        try simp only [Act.put, List.setIfInBounds_toArray, List.set_cons_zero, List.set_cons_succ]
        refine wpAnyH_take (i := 11) (oi := { dst := some 31, op := Go.Op.move (Go.Operand.tmp 11), type := 3, pos := "l10_paths.go:44", after := #[{ on := 7, ground := Go.Ground.guard }], guard := some (7, false) }) (v := ?vac11) rfl (by kernel_rfl) (by kernel_rfl) (by kernel_rfl) (fun _ _ _ h => h) (Or.inl ⟨by rfl, ?hac11⟩) hHeld ?rac11
        case hac11 => (intro w hSw; (try dsimp only at hSw); go_simp; try with_reducible rfl)
        try simp only [Act.put, List.setIfInBounds_toArray, List.set_cons_zero, List.set_cons_succ]
        refine wpAnyH_take (i := 12) (oi := { dst := some 32, op := Go.Op.indexAddr 37 (Go.Operand.tmp 30) (Go.Operand.tmp 31), type := 0, pos := "l10_paths.go:44", after := #[{ on := 10, ground := Go.Ground.data }, { on := 11, ground := Go.Ground.data }, { on := 7, ground := Go.Ground.guard }], guard := some (7, false) }) (v := ?vac12) rfl (by kernel_rfl) (by kernel_rfl) (by kernel_rfl) (fun _ _ _ h => h) (Or.inl ⟨by rfl, ?hac12⟩) hHeld ?rac12
        case hac12 => (intro w hSw; (try dsimp only at hSw); go_simp; try with_reducible rfl)
        try simp only [Act.put, List.setIfInBounds_toArray, List.set_cons_zero, List.set_cons_succ]
        refine wpAnyH_take (i := 13) (oi := { dst := some 33, op := Go.Op.load 2 (Go.Operand.tmp 32), type := 2, pos := "l10_paths.go:44", after := #[{ on := 12, ground := Go.Ground.data }, { on := 7, ground := Go.Ground.guard }], guard := some (7, false) }) (v := ?vac13) rfl (by kernel_rfl) (by kernel_rfl) (by kernel_rfl) (fun _ _ _ h => h) (Or.inl ⟨by rfl, ?hac13⟩) hHeld ?rac13
        case hac13 => (intro w hSw; (try dsimp only at hSw); go_simp; try with_reducible rfl)
        try simp only [Act.put, List.setIfInBounds_toArray, List.set_cons_zero, List.set_cons_succ]
        refine wpAnyH_take (i := 14) (oi := { dst := some 34, op := Go.Op.indexAddr 30 (Go.Operand.tmp 29) (Go.Operand.tmp 33), type := 0, pos := "l10_paths.go:44", after := #[{ on := 9, ground := Go.Ground.data }, { on := 13, ground := Go.Ground.data }, { on := 7, ground := Go.Ground.guard }], guard := some (7, false) }) (v := ?vac14) rfl (by kernel_rfl) (by kernel_rfl) (by kernel_rfl) (fun _ _ _ h => h) (Or.inl ⟨by rfl, ?hac14⟩) hHeld ?rac14
        case hac14 => (intro w hSw; (try dsimp only at hSw); go_simp; try with_reducible rfl)
        try simp only [Act.put, List.setIfInBounds_toArray, List.set_cons_zero, List.set_cons_succ]
        refine wpAnyH_take (i := 15) (oi := { dst := some 35, op := Go.Op.fieldAddr 57 (Go.Operand.tmp 34) 0, type := 0, pos := "l10_paths.go:44", after := #[{ on := 14, ground := Go.Ground.data }, { on := 7, ground := Go.Ground.guard }], guard := some (7, false) }) (v := ?vac15) rfl (by kernel_rfl) (by kernel_rfl) (by kernel_rfl) (fun _ _ _ h => h) (Or.inl ⟨by rfl, ?hac15⟩) hHeld ?rac15
        case hac15 => (intro w hSw; (try dsimp only at hSw); go_simp; try with_reducible rfl)
        try simp only [Act.put, List.setIfInBounds_toArray, List.set_cons_zero, List.set_cons_succ]
        refine wpAnyH_take (i := 16) (oi := { dst := some 36, op := Go.Op.load 2 (Go.Operand.tmp 35), type := 2, pos := "l10_paths.go:44", after := #[{ on := 15, ground := Go.Ground.data }, { on := 7, ground := Go.Ground.guard }], guard := some (7, false) }) (v := ?vac16) rfl (by kernel_rfl) (by kernel_rfl) (by kernel_rfl) (fun _ _ _ h => h) (Or.inl ⟨by rfl, ?hac16⟩) hHeld ?rac16
        case hac16 => (intro w hSw; (try dsimp only at hSw); go_simp; try with_reducible rfl)
        try simp only [Act.put, List.setIfInBounds_toArray, List.set_cons_zero, List.set_cons_succ]
        refine wpAnyH_take (i := 17) (oi := { dst := some 37, op := Go.Op.move (Go.Operand.tmp 10), type := 2, pos := "l10_paths.go:44", after := #[{ on := 7, ground := Go.Ground.guard }], guard := some (7, false) }) (v := ?vac17) rfl (by kernel_rfl) (by kernel_rfl) (by kernel_rfl) (fun _ _ _ h => h) (Or.inl ⟨by rfl, ?hac17⟩) hHeld ?rac17
        case hac17 => (intro w hSw; (try dsimp only at hSw); go_simp; try with_reducible rfl)
        try simp only [Act.put, List.setIfInBounds_toArray, List.set_cons_zero, List.set_cons_succ]
        refine wpAnyH_take (i := 18) (oi := { dst := some 38, op := Go.Op.binOp Go.BinOp.neq 2 (Go.Operand.tmp 36) (Go.Operand.tmp 37) 2, type := 4, pos := "l10_paths.go:44", after := #[{ on := 16, ground := Go.Ground.data }, { on := 17, ground := Go.Ground.data }, { on := 7, ground := Go.Ground.guard }], guard := some (7, false) }) (v := ?vac18) rfl (by kernel_rfl) (by kernel_rfl) (by kernel_rfl) (fun _ _ _ h => h) (Or.inl ⟨by rfl, ?hac18⟩) hHeld ?rac18
        case hac18 => (intro w hSw; (try dsimp only at hSw); go_simp; try with_reducible rfl)
        try simp only [Act.put, List.setIfInBounds_toArray, List.set_cons_zero, List.set_cons_succ]
        refine wpAnyH_take (i := 19) (oi := { dst := some 39, op := Go.Op.pick (Go.Operand.tmp 27) (Go.Operand.const (Go.Value.bool true)) (Go.Operand.tmp 38), type := 4, pos := "l10_paths.go:44", after := #[{ on := 7, ground := Go.Ground.data }, { on := 18, ground := Go.Ground.data }], guard := none }) (v := ?vac19) rfl (by kernel_rfl) (by kernel_rfl) (by kernel_rfl) (fun _ _ _ h => h) (Or.inl ⟨by rfl, ?hac19⟩) hHeld ?rac19
        case hac19 => (intro w hSw; (try dsimp only at hSw); go_simp; try with_reducible rfl)
        try simp only [Act.put, List.setIfInBounds_toArray, List.set_cons_zero, List.set_cons_succ]
        refine wpAnyH_done (by kernel_rfl) ?_ _
        refine NoPanic.normal ?_
        go_wp2
        go_ret
        exact ⟨by rw [HF.out]; rfl, bel_step hBW (bel_step hBr hHeld)⟩
      have hfb : (F != bb) = false := by simp [hfe]
      have Hfe : Hid ((rdAt g i).fr = bb) := HFr.out.trans hfe
      clear hfe
      go_upto_region 6 with fail
      refine wp_region_noPanic ?_
      refine wp_region_held_drew (S := fun w' => Bel wr w') (by kernel_rfl) (Bel.drew g0) (fun hHeld => ?_)
      refine wpAnyH_take (i := 0) (oi := { dst := some 20, op := Go.Op.load 33 (Go.Operand.tmp 4), type := 33, pos := "l10_paths.go:44", after := #[], guard := none }) (v := ?vad0) rfl (by kernel_rfl) (by kernel_rfl) (by kernel_rfl) (fun _ _ _ h => h) (Or.inl ⟨by rfl, ?had0⟩) hHeld ?rad0
      case had0 => (intro w hSw; (try dsimp only at hSw); go_simp; try with_reducible rfl)
      try simp only [Act.put, List.setIfInBounds_toArray, List.set_cons_zero, List.set_cons_succ]
      refine wpAnyH_take (i := 1) (oi := { dst := some 21, op := Go.Op.move (Go.Operand.tmp 1), type := 37, pos := "l10_paths.go:44", after := #[], guard := none }) (v := ?vad1) rfl (by kernel_rfl) (by kernel_rfl) (by kernel_rfl) (fun _ _ _ h => h) (Or.inl ⟨by rfl, ?had1⟩) hHeld ?rad1
      case had1 => (intro w hSw; (try dsimp only at hSw); go_simp; try with_reducible rfl)
      try simp only [Act.put, List.setIfInBounds_toArray, List.set_cons_zero, List.set_cons_succ]
      refine wpAnyH_take (i := 2) (oi := { dst := some 22, op := Go.Op.move (Go.Operand.tmp 11), type := 3, pos := "l10_paths.go:44", after := #[], guard := none }) (v := ?vad2) rfl (by kernel_rfl) (by kernel_rfl) (by kernel_rfl) (fun _ _ _ h => h) (Or.inl ⟨by rfl, ?had2⟩) hHeld ?rad2
      case had2 => (intro w hSw; (try dsimp only at hSw); go_simp; try with_reducible rfl)
      try simp only [Act.put, List.setIfInBounds_toArray, List.set_cons_zero, List.set_cons_succ]
      refine wpAnyH_take (i := 3) (oi := { dst := some 23, op := Go.Op.indexAddr 37 (Go.Operand.tmp 21) (Go.Operand.tmp 22), type := 0, pos := "l10_paths.go:44", after := #[{ on := 1, ground := Go.Ground.data }, { on := 2, ground := Go.Ground.data }], guard := none }) (v := ?vad3) rfl (by kernel_rfl) (by kernel_rfl) (by kernel_rfl) (fun _ _ _ h => h) (Or.inl ⟨by rfl, ?had3⟩) hHeld ?rad3
      case had3 => (intro w hSw; (try dsimp only at hSw); go_simp; try with_reducible rfl)
      try simp only [Act.put, List.setIfInBounds_toArray, List.set_cons_zero, List.set_cons_succ]
      refine wpAnyH_take (i := 4) (oi := { dst := some 24, op := Go.Op.load 2 (Go.Operand.tmp 23), type := 2, pos := "l10_paths.go:44", after := #[{ on := 3, ground := Go.Ground.data }], guard := none }) (v := ?vad4) rfl (by kernel_rfl) (by kernel_rfl) (by kernel_rfl) (fun _ _ _ h => h) (Or.inl ⟨by rfl, ?had4⟩) hHeld ?rad4
      case had4 => (intro w hSw; (try dsimp only at hSw); go_simp; try with_reducible rfl)
      try simp only [Act.put, List.setIfInBounds_toArray, List.set_cons_zero, List.set_cons_succ]
      refine wpAnyH_ready (rs := [5]) (by kernel_rfl) (by simp) ?_
      refine AllReadyH.cons (o := { dst := some 25, op := Go.Op.call { callee := Go.Callee.value (Go.Operand.func 33), args := #[Go.Operand.tmp 20, Go.Operand.tmp 24], argTypes := #[33, 2] }, type := 4, pos := "l10_paths.go:44", after := #[{ on := 0, ground := Go.Ground.data }, { on := 4, ground := Go.Ground.data }], guard := none }) rfl (fun K hK => ?_) AllReadyH.nil
      go_simp
      refine (l10RoadIs_r _ _ _ _ _ _ _ _ _ _ true _ hx).mono ?_
      rintro e w2 ⟨rfl, hbk⟩
      go_wp2_with fail
      refine hK.out _ _ (bel_step hHeld hbk) (fun hHeld' => ?_)
      clear hK K hHeld
      have hHeld := hHeld'
      clear hHeld'
      try simp only [Act.put, List.setIfInBounds_toArray, List.set_cons_zero, List.set_cons_succ]
      refine wpAnyH_take (i := 6) (oi := { dst := some 26, op := Go.Op.unOp Go.UnOp.not 4 (Go.Operand.tmp 25), type := 4, pos := "l10_paths.go:44", after := #[{ on := 5, ground := Go.Ground.data }], guard := none }) (v := ?vad6) rfl (by kernel_rfl) (by kernel_rfl) (by kernel_rfl) (fun _ _ _ h => h) (Or.inl ⟨by rfl, ?had6⟩) hHeld ?rad6
      case had6 => (intro w hSw; (try dsimp only at hSw); go_simp; try with_reducible rfl)
      try simp only [Act.put, List.setIfInBounds_toArray, List.set_cons_zero, List.set_cons_succ]
      refine wpAnyH_take (i := 7) (oi := { dst := some 27, op := Go.Op.move (Go.Operand.tmp 26), type := 4, pos := "l10_paths.go:44", after := #[{ on := 6, ground := Go.Ground.data }, { on := 5, ground := Go.Ground.chain }], guard := none }) (v := ?vad7) rfl (by kernel_rfl) (by kernel_rfl) (by kernel_rfl) (fun _ _ _ h => h) (Or.inl ⟨by rfl, ?had7⟩) hHeld ?rad7
      case had7 => (intro w hSw; (try dsimp only at hSw); go_simp; try with_reducible rfl)
      try simp only [Act.put, List.setIfInBounds_toArray, List.set_cons_zero, List.set_cons_succ]
      refine wpAnyH_take (i := 8) (oi := { dst := some 28, op := Go.Op.fieldAddr 33 (Go.Operand.tmp 4) 1, type := 0, pos := "l10_paths.go:44", after := #[{ on := 7, ground := Go.Ground.guard }], guard := some (7, false) }) (v := ?vad8) rfl (by kernel_rfl) (by kernel_rfl) (by kernel_rfl) (fun _ _ _ h => h) (Or.inl ⟨by rfl, ?had8⟩) hHeld ?rad8
      case had8 => (intro w hSw; (try dsimp only at hSw); go_simp; try with_reducible rfl)
      try simp only [Act.put, List.setIfInBounds_toArray, List.set_cons_zero, List.set_cons_succ]
      refine wpAnyH_take (i := 9) (oi := { dst := some 29, op := Go.Op.load 30 (Go.Operand.tmp 28), type := 30, pos := "l10_paths.go:44", after := #[{ on := 8, ground := Go.Ground.data }, { on := 7, ground := Go.Ground.guard }], guard := some (7, false) }) (v := ?vad9) rfl (by kernel_rfl) (by kernel_rfl) (by kernel_rfl) (fun _ _ _ h => h) (Or.inl ⟨by rfl, ?had9⟩) hHeld ?rad9
      case had9 => (intro w hSw; (try dsimp only at hSw); go_simp; try with_reducible rfl)
      try simp only [Act.put, List.setIfInBounds_toArray, List.set_cons_zero, List.set_cons_succ]
      refine wpAnyH_take (i := 10) (oi := { dst := some 30, op := Go.Op.move (Go.Operand.tmp 1), type := 37, pos := "l10_paths.go:44", after := #[{ on := 7, ground := Go.Ground.guard }], guard := some (7, false) }) (v := ?vad10) rfl (by kernel_rfl) (by kernel_rfl) (by kernel_rfl) (fun _ _ _ h => h) (Or.inl ⟨by rfl, ?had10⟩) hHeld ?rad10
      case had10 => (intro w hSw; (try dsimp only at hSw); go_simp; try with_reducible rfl)
      try simp only [Act.put, List.setIfInBounds_toArray, List.set_cons_zero, List.set_cons_succ]
      refine wpAnyH_take (i := 11) (oi := { dst := some 31, op := Go.Op.move (Go.Operand.tmp 11), type := 3, pos := "l10_paths.go:44", after := #[{ on := 7, ground := Go.Ground.guard }], guard := some (7, false) }) (v := ?vad11) rfl (by kernel_rfl) (by kernel_rfl) (by kernel_rfl) (fun _ _ _ h => h) (Or.inl ⟨by rfl, ?had11⟩) hHeld ?rad11
      case had11 => (intro w hSw; (try dsimp only at hSw); go_simp; try with_reducible rfl)
      try simp only [Act.put, List.setIfInBounds_toArray, List.set_cons_zero, List.set_cons_succ]
      refine wpAnyH_take (i := 12) (oi := { dst := some 32, op := Go.Op.indexAddr 37 (Go.Operand.tmp 30) (Go.Operand.tmp 31), type := 0, pos := "l10_paths.go:44", after := #[{ on := 10, ground := Go.Ground.data }, { on := 11, ground := Go.Ground.data }, { on := 7, ground := Go.Ground.guard }], guard := some (7, false) }) (v := ?vad12) rfl (by kernel_rfl) (by kernel_rfl) (by kernel_rfl) (fun _ _ _ h => h) (Or.inl ⟨by rfl, ?had12⟩) hHeld ?rad12
      case had12 => (intro w hSw; (try dsimp only at hSw); go_simp; try with_reducible rfl)
      try simp only [Act.put, List.setIfInBounds_toArray, List.set_cons_zero, List.set_cons_succ]
      refine wpAnyH_take (i := 13) (oi := { dst := some 33, op := Go.Op.load 2 (Go.Operand.tmp 32), type := 2, pos := "l10_paths.go:44", after := #[{ on := 12, ground := Go.Ground.data }, { on := 7, ground := Go.Ground.guard }], guard := some (7, false) }) (v := ?vad13) rfl (by kernel_rfl) (by kernel_rfl) (by kernel_rfl) (fun _ _ _ h => h) (Or.inl ⟨by rfl, ?had13⟩) hHeld ?rad13
      case had13 => (intro w hSw; (try dsimp only at hSw); go_simp; try with_reducible rfl)
      try simp only [Act.put, List.setIfInBounds_toArray, List.set_cons_zero, List.set_cons_succ]
      refine wpAnyH_take (i := 14) (oi := { dst := some 34, op := Go.Op.indexAddr 30 (Go.Operand.tmp 29) (Go.Operand.tmp 33), type := 0, pos := "l10_paths.go:44", after := #[{ on := 9, ground := Go.Ground.data }, { on := 13, ground := Go.Ground.data }, { on := 7, ground := Go.Ground.guard }], guard := some (7, false) }) (v := ?vad14) rfl (by kernel_rfl) (by kernel_rfl) (by kernel_rfl) (fun _ _ _ h => h) (Or.inl ⟨by rfl, ?had14⟩) hHeld ?rad14
      case had14 => (intro w hSw; (try dsimp only at hSw); go_simp; try with_reducible rfl)
      try simp only [Act.put, List.setIfInBounds_toArray, List.set_cons_zero, List.set_cons_succ]
      refine wpAnyH_take (i := 15) (oi := { dst := some 35, op := Go.Op.fieldAddr 57 (Go.Operand.tmp 34) 0, type := 0, pos := "l10_paths.go:44", after := #[{ on := 14, ground := Go.Ground.data }, { on := 7, ground := Go.Ground.guard }], guard := some (7, false) }) (v := ?vad15) rfl (by kernel_rfl) (by kernel_rfl) (by kernel_rfl) (fun _ _ _ h => h) (Or.inl ⟨by rfl, ?had15⟩) hHeld ?rad15
      case had15 => (intro w hSw; (try dsimp only at hSw); go_simp; try with_reducible rfl)
      try simp only [Act.put, List.setIfInBounds_toArray, List.set_cons_zero, List.set_cons_succ]
      refine wpAnyH_take (i := 16) (oi := { dst := some 36, op := Go.Op.load 2 (Go.Operand.tmp 35), type := 2, pos := "l10_paths.go:44", after := #[{ on := 15, ground := Go.Ground.data }, { on := 7, ground := Go.Ground.guard }], guard := some (7, false) }) (v := ?vad16) rfl (by kernel_rfl) (by kernel_rfl) (by kernel_rfl) (fun _ _ _ h => h) (Or.inl ⟨by rfl, ?had16⟩) hHeld ?rad16
      case had16 => (intro w hSw; (try dsimp only at hSw); go_simp; try with_reducible rfl)
      try simp only [Act.put, List.setIfInBounds_toArray, List.set_cons_zero, List.set_cons_succ]
      refine wpAnyH_take (i := 17) (oi := { dst := some 37, op := Go.Op.move (Go.Operand.tmp 10), type := 2, pos := "l10_paths.go:44", after := #[{ on := 7, ground := Go.Ground.guard }], guard := some (7, false) }) (v := ?vad17) rfl (by kernel_rfl) (by kernel_rfl) (by kernel_rfl) (fun _ _ _ h => h) (Or.inl ⟨by rfl, ?had17⟩) hHeld ?rad17
      case had17 => (intro w hSw; (try dsimp only at hSw); go_simp; try with_reducible rfl)
      try simp only [Act.put, List.setIfInBounds_toArray, List.set_cons_zero, List.set_cons_succ]
      refine wpAnyH_take (i := 18) (oi := { dst := some 38, op := Go.Op.binOp Go.BinOp.neq 2 (Go.Operand.tmp 36) (Go.Operand.tmp 37) 2, type := 4, pos := "l10_paths.go:44", after := #[{ on := 16, ground := Go.Ground.data }, { on := 17, ground := Go.Ground.data }, { on := 7, ground := Go.Ground.guard }], guard := some (7, false) }) (v := ?vad18) rfl (by kernel_rfl) (by kernel_rfl) (by kernel_rfl) (fun _ _ _ h => h) (Or.inl ⟨by rfl, ?had18⟩) hHeld ?rad18
      case had18 => (intro w hSw; (try dsimp only at hSw); go_simp; try with_reducible rfl)
      try simp only [Act.put, List.setIfInBounds_toArray, List.set_cons_zero, List.set_cons_succ]
      refine wpAnyH_take (i := 19) (oi := { dst := some 39, op := Go.Op.pick (Go.Operand.tmp 27) (Go.Operand.const (Go.Value.bool true)) (Go.Operand.tmp 38), type := 4, pos := "l10_paths.go:44", after := #[{ on := 7, ground := Go.Ground.data }, { on := 18, ground := Go.Ground.data }], guard := none }) (v := ?vad19) rfl (by kernel_rfl) (by kernel_rfl) (by kernel_rfl) (fun _ _ _ h => h) (Or.inl ⟨by rfl, ?had19⟩) hHeld ?rad19
      case had19 => (intro w hSw; (try dsimp only at hSw); go_simp; try with_reducible rfl)
      try simp only [Act.put, List.setIfInBounds_toArray, List.set_cons_zero, List.set_cons_succ]
      refine wpAnyH_done (by kernel_rfl) ?_ _
      refine NoPanic.normal ?_
      have hB2 := bel_step hBr hHeld
      have HS1 : Hid (∀ w', Bel w2 w' → w'.cell? ⟨w.heap.size, 0, none⟩ = some (.slice a0 n0 c0) ∧ w'.cell? ⟨w.heap.size, 1, none⟩ = some (.slice (some ⟨b', off', none⟩) n1 c1) ∧ w'.cell? ⟨w.heap.size, 2, none⟩ = some (.slice a2 n2 c2) ∧ w'.cell? ⟨b, off + k, none⟩ = some (.int .i64 (i : Int)) ∧ w'.cell? ⟨b', off' + i * 6, none⟩ = some (.int .i64 F) ∧ w'.cell? ⟨b', off' + i * 6 + 1, none⟩ = some (.int .i64 D) ∧ w'.cell? ⟨b', off' + i * 6 + 3, none⟩ = some (.int .i64 T)) := fun w' h =>
        ⟨(hS1 w' (bel_step hHeld h)).1, (hS1 w' (bel_step hHeld h)).2.1, (hS1 w' (bel_step hHeld h)).2.2.1, (hS1 w' (bel_step hHeld h)).2.2.2, hS2 w' (bel_step hHeld h)⟩
      clear hS1 hS2 hHeld g0
      rcases k with _ | j
      · have HN : Hid (paS g l s (0 + 1) = some (a + T, D)) := (by rw [← HTi.out, ← HTo.out]; exact paS_first hkl HS.out Hx.out hil Hfe.out : paS g l s (0 + 1) = some (a + T, D))
        have hwr : IntKind.i64.wrap (a + T) = a + T := by rw [IntKind.wrap_i64]; omega
        obtain ⟨_, k1, _, k3, _, k5, k6⟩ := HS1.out _ (Bel.refl _)
        rw [Nat.add_zero] at k3
        have kl := World.block_lt_of_cell? _ _ k1
        go_wp2
        go_quiet (fail)
        go_wp2
        go_quiet (fail)
        go_wp2
        go_roundw
        case rel => exact ⟨1, a + T, D, by omega, by go_num, rfl, rfl, HN.out, ⟨by omega, by omega⟩, bel_drewN hB2 _⟩
        case measure => simp [intOf]; omega
      · obtain ⟨q, eq, hq, Hq⟩ := paS_last (by omega) HS.out
        have hqn : q < n1 := by rw [← H1.out]; exact hq
        have Heq : Hid (l[j]'(by omega) = (q : Int)) := eq
        obtain ⟨C, HCC⟩ : ∃ x, Hid (tnB g q i = x) := ⟨_, (rfl : tnB g q i = _)⟩
        have hCb := tnB_bd g q i
        rw [HCC.out] at hCb
        obtain ⟨hC0, hC1⟩ := hCb
        have hTT : ∀ w', Bel w2 w' → Calls Tryd.prog 34 #[gphV a0 n0 c0 (some ⟨b', off', none⟩) n1 c1 a2 n2 c2, .int .i64 (q : Int), .int .i64 (i : Int)] w' fun e w2 => e = .returned (.int .i64 C) ∧ Bel w' w2 := fun w' h => by
          rw [← HCC.out]
          have hh := bel_step hBW (bel_step hB2 h)
          exact specTurn_any _ _ _ _ _ _ _ _ _ g b0 b1 b2 q i _ (t0.bel spotE hh) (t1.bel roadE hh) (t2.bel banE hh) H0.out H1.out H2.out HP.out hqn hi
        have hSS : ∀ w', Bel w2 w' → w'.cell? ⟨w.heap.size, 0, none⟩ = some (.slice a0 n0 c0) ∧ w'.cell? ⟨w.heap.size, 1, none⟩ = some (.slice (some ⟨b', off', none⟩) n1 c1) ∧ w'.cell? ⟨w.heap.size, 2, none⟩ = some (.slice a2 n2 c2) ∧ w'.cell? ⟨b, off + (j + 1), none⟩ = some (.int .i64 (i : Int)) ∧ w'.cell? ⟨b, off + j, none⟩ = some (.int .i64 (q : Int)) := fun w' h => by
          have h1 := (int_at (hI.bel intE (bel_step hBW (bel_step hB2 h))) (k := j) (by omega)).2
          rw [Heq.out] at h1
          obtain ⟨v0, v1, v2, v3, _⟩ := HS1.out w' h
          exact ⟨v0, v1, v2, v3, h1⟩
        have g0 : Bel w2 w2 := Bel.refl _
        have hjj : IntKind.i64.wrap (j : Int) = j := by rw [IntKind.wrap_i64]; omega
        have hltj : (j : Int) < (m : Int) := by omega
        have h01 : (0 : Int) ≤ (j : Int) + 1 := by omega
        have h02 : (j : Int) + 1 < (m : Int) := by omega
        clear eq Hq
        go_upto_region 9 with fail
        go_region_held3 (fun w' => Bel w2 w') (with_reducible (repeat (first | assumption | exact g0 | refine Bel.drew ?_ | refine bel_then (by assumption) ?_)))
          ((go_at_call 34; refine (hTT _ (by assumption)).mono ?_; rintro e w3 ⟨rfl, hb3⟩))
        have hH : Bel w2 w3 := by assumption
        obtain ⟨_, k1, _, k3, _, k5, k6⟩ := HS1.out _ hH
        have kl := World.block_lt_of_cell? _ _ k1
        have hB3 := bel_step hB2 hH
        clear hSS hTT
        by_cases hCn : C < 0
        · have hCd : decide (C < 0) = true := by simp [hCn]
          have HF : Hid (R = -1) := (by rw [HR.out]; exact paE_none (by rw [HL.out]; exact hlt) (paS_ban hkl HS.out Heq.out Hx.out (by rw [HCC.out]; exact hCn)) : R = -1)
          go_wp2
          go_ret
          exact ⟨by rw [HF.out]; rfl, bel_step hBW hB3⟩
        · have hCd : decide (C < 0) = false := by simp; omega
          have hwr : IntKind.i64.wrap (a + C + T) = a + C + T := by rw [IntKind.wrap_i64]; omega
          have HN : Hid (paS g l s (j + 1 + 1) = some (a + C + T, D)) := (by rw [← HTi.out, ← HTo.out, ← HCC.out]; exact paS_on hkl HS.out Heq.out Hx.out hil Hfe.out (by rw [HCC.out]; omega) : paS g l s (j + 1 + 1) = some (a + C + T, D))
          go_wp2
          go_quiet (fail)
          go_wp2
          go_quiet (fail)
          go_wp2
          go_roundw
          case rel => exact ⟨j + 1 + 1, a + C + T, D, by omega, by go_num, rfl, rfl, HN.out, ⟨by omega, by omega⟩, bel_drewN hB3 _⟩
          case measure => simp [intOf]; omega
    · have e : k = m := by omega
      subst e
      have HSe : Hid (paS g l s l.length = some (a, bb)) := (by rw [HL.out]; exact HS.out : paS g l s l.length = some (a, bb))
      by_cases he : bb = t
      · have hE : (bb != t) = false := by simp [he]
        have HF : Hid (R = a) := (by rw [HR.out]; exact paE_end HSe.out he : R = a)
        clear he
        go_wp2
        go_ret
        exact ⟨by rw [HF.out]; rfl, bel_step hBW hBr⟩
      · have hE : (bb != t) = true := by simp [he]
        have HF : Hid (R = -1) := (by rw [HR.out]; exact paE_off HSe.out he : R = -1)
        clear he
        go_wp2
        go_ret
        exact ⟨by rw [HF.out]; rfl, bel_step hBW hBr⟩

set_option maxRecDepth 100000 in
set_option maxHeartbeats 4000000 in
theorem specPathTime_any (v : Value) (g : GraphD) (bs : List Nat) (ar : Option Addr) (m cr : Nat) (l : List Int) (br : List Nat) (s t : Int) (w : World) (hV : GphV w v g bs) (hQ : GphQ g) (hI : Ints w ar l br) (hl : l.length = m) (hm : m ≤ 1048576) :
    Calls Tryd.prog 13 #[v, .slice ar m cr, .int .i64 s, .int .i64 t] w fun e w' => e = .returned (.int .i64 (paQ g l s t)) ∧ Bel w w' := by
  have HL : Hid (l.length = m) := hl
  clear hl
  have hV' := hV
  obtain ⟨a0, c0, a1, c1, a2, c2, b0, b1, b2, _, rfl, t0, t1, t2⟩ := hV
  obtain ⟨n0, H0⟩ : ∃ n, Hid (g.places.length = n) := ⟨_, (rfl : g.places.length = _)⟩
  obtain ⟨n1, H1⟩ : ∃ n, Hid (g.roads.length = n) := ⟨_, (rfl : g.roads.length = _)⟩
  obtain ⟨n2, H2⟩ : ∃ n, Hid (g.bans.length = n) := ⟨_, (rfl : g.bans.length = _)⟩
  rw [H0.out, H1.out, H2.out] at hV' ⊢
  obtain ⟨W, HW⟩ : ∃ W, Hid (W = w.alloc (.cells #[.slice a0 n0 c0, .slice a1 n1 c1, .slice a2 n2 c2] 33)) := ⟨_, (rfl : w.alloc (.cells #[.slice a0 n0 c0, .slice a1 n1 c1, .slice a2 n2 c2] 33) = _)⟩
  have hBW : Bel w W := by rw [HW.out]; exact bel_alloc (Bel.refl _) _
  have XG : Blk W w.heap.size [.slice a0 n0 c0, .slice a1 n1 c1, .slice a2 n2 c2] := by rw [HW.out]; exact Blk.new w [.slice a0 n0 c0, .slice a1 n1 c1, .slice a2 n2 c2] _
  obtain ⟨R, HR⟩ : ∃ R, Hid (paQ g l s t = R) := ⟨_, (rfl : paQ g l s t = _)⟩
  rw [HR.out]
  go_enter Tryd.func13, Tryd.ntmps13
  go_wp2_with fail
  rw [← HW.out]
  refine (specGraphOk_any _ g bs _ (hV'.bel hBW) hQ).mono ?_
  rintro e w1 ⟨rfl, hb1⟩
  have hB1 := bel_step hBW hb1
  have XG1 := XG.bel hb1
  have x0 : w1.cell? ⟨w.heap.size, 0, none⟩ = some (.slice a0 n0 c0) := XG1.cell 0 (by simp)
  have x1 : w1.cell? ⟨w.heap.size, 1, none⟩ = some (.slice a1 n1 c1) := XG1.cell 1 (by simp)
  have x2 : w1.cell? ⟨w.heap.size, 2, none⟩ = some (.slice a2 n2 c2) := XG1.cell 2 (by simp)
  have xl := XG1.lt
  by_cases hP : graphP g
  rotate_left
  · have HF : Hid (R = -1) := (by rw [← HR.out]; exact paQ_no (fun h => hP h.1) : R = -1)
    rw [bP_false hP]
    go_wp2
    go_ret
    exact ⟨by rw [HF.out]; rfl, hB1⟩
  rw [bP_true hP]
  rcases Bool.eq_false_or_eq_true (inN n0 s) with hs | hs
  rotate_left
  · have HF : Hid (R = -1) := (by rw [← HR.out]; exact paQ_no (fun h => by have := h.2.1; rw [H0.out, hs] at this; cases this) : R = -1)
    go_wp2_with fail
    refine (l10SpotIs_r _ _ _ _ _ _ _ _ _ _ false _ hs).mono ?_
    rintro e w2 ⟨rfl, hb2⟩
    go_wp2
    go_ret
    exact ⟨by rw [HF.out]; rfl, bel_step hB1 hb2⟩
  go_wp2_with fail
  refine (l10SpotIs_r _ _ _ _ _ _ _ _ _ _ true _ hs).mono ?_
  rintro e w2 ⟨rfl, hb2⟩
  have hB2 := bel_step hB1 hb2
  have XG2 := XG1.bel hb2
  have y0 : w2.cell? ⟨w.heap.size, 0, none⟩ = some (.slice a0 n0 c0) := XG2.cell 0 (by simp)
  have y1 : w2.cell? ⟨w.heap.size, 1, none⟩ = some (.slice a1 n1 c1) := XG2.cell 1 (by simp)
  have y2 : w2.cell? ⟨w.heap.size, 2, none⟩ = some (.slice a2 n2 c2) := XG2.cell 2 (by simp)
  have yl := XG2.lt
  clear x0 x1 x2 xl XG1 XG
  rcases Bool.eq_false_or_eq_true (inN n0 t) with ht | ht
  rotate_left
  · have HF : Hid (R = -1) := (by rw [← HR.out]; exact paQ_no (fun h => by have := h.2.2; rw [H0.out, ht] at this; cases this) : R = -1)
    go_wp2_with fail
    refine (l10SpotIs_r _ _ _ _ _ _ _ _ _ _ false _ ht).mono ?_
    rintro e w3 ⟨rfl, hb3⟩
    go_wp2
    go_ret
    exact ⟨by rw [HF.out]; rfl, bel_step hB2 hb3⟩
  have HF : Hid (R = paE g l s t) := (by rw [← HR.out]; exact paQ_at hP (by rw [H0.out]; exact hs) (by rw [H0.out]; exact ht) : R = paE g l s t)
  go_wp2_with fail
  refine (l10SpotIs_r _ _ _ _ _ _ _ _ _ _ true _ ht).mono ?_
  rintro e w3 ⟨rfl, hb3⟩
  have hB3 := bel_step hB2 hb3
  have XG3 := XG2.bel hb3
  have z0 : w3.cell? ⟨w.heap.size, 0, none⟩ = some (.slice a0 n0 c0) := XG3.cell 0 (by simp)
  have z1 : w3.cell? ⟨w.heap.size, 1, none⟩ = some (.slice a1 n1 c1) := XG3.cell 1 (by simp)
  have z2 : w3.cell? ⟨w.heap.size, 2, none⟩ = some (.slice a2 n2 c2) := XG3.cell 2 (by simp)
  have zl := XG3.lt
  clear y0 y1 y2 yl XG2 XG3
  go_wp2_with fail
  refine (specTime_any _ _ _ _ _ _ _ _ _ g b0 b1 b2 _ _ _ l br _ _ _ (t0.bel spotE hB3) (t1.bel roadE hB3) (t2.bel banE hB3) H0.out H1.out H2.out hP (hI.bel intE hB3) HL.out hm).mono ?_
  rintro e w4 ⟨rfl, hb4⟩
  clear z0 z1 z2 zl
  go_wp2
  go_ret
  exact ⟨by rw [HF.out]; rfl, bel_step hB3 hb4⟩
end Go.Proofs.YtponmbjflablcaaDoor
