/-
  The graph with the Bans of a set, told anew: contract.
-/
import Derived.Test.YtiagdabikbjbiaaSrtK
import Derived.Test.YtiagdabikbjbiaaFrsG
import Derived.Test.YtiagdabikbjbiaaXC
import Derived.Test.YtiagdabikbjbiaaXA
namespace Go.Proofs.Ytiagdabikbjbiaa
open Go.RowKit Go.Maps

/-- The graph with these Bans, if they are not too many. -/
def tldQ (g : GraphD) (L : List BanD) : GraphD := if L.length ≤ 2000 then ⟨g.places, g.roads, L⟩ else ⟨[], [], []⟩
abbrev netV (a0 : Option Addr) (n0 c0 : Nat) (a1 : Option Addr) (n1 c1 : Nat) (a2 : Option Addr) (n2 c2 : Nat) (Bb Be M : Nat) : Value :=
  .agg #[.slice a0 n0 c0, .slice a1 n1 c1, .slice a2 n2 c2, .slice (some ⟨Bb, 0, none⟩) n0 n0, .slice (some ⟨Be, 0, none⟩) n0 n0, .map (some M)]

set_option maxRecDepth 100000 in
set_option maxHeartbeats 4000000 in
theorem told_any (a0 : Option Addr) (n0 c0 : Nat) (a1 : Option Addr) (n1 c1 : Nat) (a2 : Option Addr) (k2 c2 : Nat) (Bb Be M : Nat) (g : GraphD) (L : List BanD) (b0 b1 : List Nat) (w : World)
    (t0 : SpotL w a0 g.places b0) (t1 : RoadL w a1 g.roads b1) (e0 : g.places.length = n0) (e1 : g.roads.length = n1) (m0 : n0 ≤ 5000) (m1 : n1 ≤ 8000) (hX : BX w M L) (hl : L.length ≤ 2001) :
    Calls Try.prog 32 #[netV a0 n0 c0 a1 n1 c1 a2 k2 c2 Bb Be M] w fun e w' => ∃ v' bs', e = .returned v' ∧ GphV w' v' (tldQ g L) bs' ∧ Fresh w w' bs' ∧ Bel w w' := by
  obtain ⟨V, HV⟩ : ∃ V, Hid (V = (w.alloc (.cells #[.slice a0 n0 c0, .slice a1 n1 c1, .slice a2 k2 c2, .slice (some ⟨Bb, 0, none⟩) n0 n0, .slice (some ⟨Be, 0, none⟩) n0 n0, .map (some M)] 59)).alloc (.cells #[.slice none 0 0, .slice none 0 0, .slice none 0 0] 34)) := ⟨_, (rfl : (w.alloc (.cells #[.slice a0 n0 c0, .slice a1 n1 c1, .slice a2 k2 c2, .slice (some ⟨Bb, 0, none⟩) n0 n0, .slice (some ⟨Be, 0, none⟩) n0 n0, .map (some M)] 59)).alloc (.cells #[.slice none 0 0, .slice none 0 0, .slice none 0 0] 34) = _)⟩
  have hBV : Bel w V := by rw [HV.out]; exact bel_alloc (bel_alloc (Bel.refl _) _) _
  have XN : Blk V w.heap.size [.slice a0 n0 c0, .slice a1 n1 c1, .slice a2 k2 c2, .slice (some ⟨Bb, 0, none⟩) n0 n0, .slice (some ⟨Be, 0, none⟩) n0 n0, .map (some M)] := by rw [HV.out]; exact (Blk.new w [.slice a0 n0 c0, .slice a1 n1 c1, .slice a2 k2 c2, .slice (some ⟨Bb, 0, none⟩) n0 n0, .slice (some ⟨Be, 0, none⟩) n0 n0, .map (some M)] _).bel (bel_alloc (Bel.refl _) _)
  have XR : Blk V (w.heap.size + 1) [.slice none 0 0, .slice none 0 0, .slice none 0 0] := by rw [HV.out]; exact Blk.new1 w _ [.slice none 0 0, .slice none 0 0, .slice none 0 0] _
  have hXV := hX.bel hBV
  have hlen := fun ty => hXV.lens ty
  have hlo : w.heap.size ≤ w.heap.size + 1 := Nat.le_succ _
  have x0 : V.cell? ⟨w.heap.size, 0, none⟩ = some (.slice a0 n0 c0) := XN.cell 0 (by simp)
  have x1 : V.cell? ⟨w.heap.size, 1, none⟩ = some (.slice a1 n1 c1) := XN.cell 1 (by simp)
  have x5 : V.cell? ⟨w.heap.size, 5, none⟩ = some (.map (some M)) := XN.cell 5 (by simp)
  have xl := XN.lt
  go_enter Try.func32, Try.ntmps32
  go_upto_region 1 with fail
  rw [← HV.out]
  by_cases hk : L.length ≤ 2000
  rotate_left
  · have HF : Hid (tldQ g L = ⟨[], [], []⟩) := (if_neg hk : tldQ g L = ⟨[], [], []⟩)
    have hkd : (2000 : Int) < (L.length : Int) := by omega
    have r0 : V.cell? ⟨w.heap.size + 1, 0, none⟩ = some (.slice none 0 0) := XR.cell 0 (by simp)
    have r1 : V.cell? ⟨w.heap.size + 1, 1, none⟩ = some (.slice none 0 0) := XR.cell 1 (by simp)
    have r2 : V.cell? ⟨w.heap.size + 1, 2, none⟩ = some (.slice none 0 0) := XR.cell 2 (by simp)
    have f0 := XR.free 0
    have f1 := XR.free 1
    have f2 := XR.free 2
    have rl := XR.lt
    have XRz : Blk (((V.setCell ⟨w.heap.size + 1, 0, none⟩ (.slice none 0 0)).setCell ⟨w.heap.size + 1, 1, none⟩ (.slice none 0 0)).setCell ⟨w.heap.size + 1, 2, none⟩ (.slice none 0 0)) (w.heap.size + 1) [.slice none 0 0, .slice none 0 0, .slice none 0 0] := ((XR.set 0 (.slice none 0 0) (by simp)).set 1 (.slice none 0 0) (by simp)).set 2 (.slice none 0 0) (by simp)
    have s0 := XRz.cell 0 (by simp)
    have s1 := XRz.cell 1 (by simp)
    have s2 := XRz.cell 2 (by simp)
    simp only [List.getElem_cons_zero, List.getElem_cons_succ] at s0 s1 s2
    obtain ⟨X, HX⟩ : ∃ X, Hid (X = ((V.setCell ⟨w.heap.size + 1, 0, none⟩ (.slice none 0 0)).setCell ⟨w.heap.size + 1, 1, none⟩ (.slice none 0 0)).setCell ⟨w.heap.size + 1, 2, none⟩ (.slice none 0 0)) := ⟨_, (rfl : ((V.setCell ⟨w.heap.size + 1, 0, none⟩ (.slice none 0 0)).setCell ⟨w.heap.size + 1, 1, none⟩ (.slice none 0 0)).setCell ⟨w.heap.size + 1, 2, none⟩ (.slice none 0 0) = _)⟩
    rw [← HX.out] at s0 s1 s2
    have HB : Hid (Bel w X) := by rw [HX.out]; exact bel_set (bel_set (bel_set hBV hlo _) hlo _) hlo _
    go_wp2
    rw [← HX.out]
    refine bodyPost_ret (v := .agg #[.slice none 0 0, .slice none 0 0, .slice none 0 0]) (by simp [results, Try.results32, go_sem, s0, s1, s2]) rfl ⟨_, [], rfl, ?_, Fresh.nil _ _, HB.out⟩
    rw [HF.out]
    exact ⟨none, 0, none, 0, none, 0, [], [], [], rfl, rfl, Sl.nil, Sl.nil, Sl.nil⟩
  · have HF : Hid (tldQ g L = ⟨g.places, g.roads, L⟩) := (if_pos hk : tldQ g L = ⟨g.places, g.roads, L⟩)
    have hkd : ¬ (2000 : Int) < (L.length : Int) := by omega
    have hS : ∀ w', Bel V w' → w'.cell? ⟨w.heap.size, 0, none⟩ = some (.slice a0 n0 c0) ∧ w'.cell? ⟨w.heap.size, 1, none⟩ = some (.slice a1 n1 c1) ∧ w'.cell? ⟨w.heap.size, 5, none⟩ = some (.map (some M)) ∧ w.heap.size < w'.heap.size := fun w' h => ⟨bel_cellM h xl x0, bel_cellM h xl x1, bel_cellM h xl x5, bel_lt h xl⟩
    go_upto_region 3 with fail
    refine wp_region_noPanic ?_
    refine wp_region_held_drew (S := fun w' => w'.cell? ⟨w.heap.size, 0, none⟩ = some (.slice a0 n0 c0) ∧ w'.cell? ⟨w.heap.size, 1, none⟩ = some (.slice a1 n1 c1) ∧ w'.cell? ⟨w.heap.size, 5, none⟩ = some (.map (some M)) ∧ w.heap.size < w'.heap.size) (by kernel_rfl) (hS _ (Bel.drew (Bel.refl _))) (fun hHeld => ?_)
    have hY0 : Bel V V.drew := Bel.drew (Bel.refl _)
    generalize V.drew = Y at hHeld hY0 ⊢
    refine tk 0 hHeld ?_; refine tk 1 hHeld ?_; refine tk 2 hHeld ?_; refine tk 4 hHeld ?_; refine tk 5 hHeld ?_; refine tk 6 hHeld ?_; refine tk 8 hHeld ?_; refine tk 9 hHeld ?_
    refine rd1 3 (fun K hK => ?_)
    go_simp
    refine (freshSpot_to a0 n0 c0 g.places b0 Y Y (Bel.refl _) (t0.bel spotE (bel_step hBV hY0)) e0 (by omega)).mono ?_
    rintro e w1 ⟨p0, q0, d0, rfl, T1, F1, _, B1⟩
    have hY1 := bel_step hY0 B1
    go_wp2_with fail
    refine hK.out _ _ (hS _ hY1) (fun hHeld' => ?_)
    clear hK K hHeld
    have hHeld := hHeld'
    clear hHeld'
    try simp only [Act.put, List.setIfInBounds_toArray, List.set_cons_zero, List.set_cons_succ]
    refine rd1 7 (fun K hK => ?_)
    go_simp
    refine (freshRoad_to a1 n1 c1 g.roads b1 w1 w1 (Bel.refl _) (t1.bel roadE (bel_step hBV hY1)) e1 (by omega)).mono ?_
    rintro e w2 ⟨p1, q1, d1, rfl, T2, F2, _, B2⟩
    have hY2 := bel_step hY1 B2
    go_wp2_with fail
    refine hK.out _ _ (hS _ hY2) (fun hHeld' => ?_)
    clear hK K hHeld
    have hHeld := hHeld'
    clear hHeld'
    try simp only [Act.put, List.setIfInBounds_toArray, List.set_cons_zero, List.set_cons_succ]
    refine rd1 10 (fun K hK => ?_)
    go_simp
    refine (keysB_any (some M) w2).mono ?_
    rintro e w3 ⟨rfl, hw3⟩
    have B3 : Bel w2 w3 := by rw [hw3]; exact bel_alloc (Bel.refl _) _
    have hm3 : w3.cell? ⟨w2.heap.size, 0, none⟩ = some (.map (some M)) := by rw [hw3]; simp
    have hl3 : w2.heap.size < w3.heap.size := by rw [hw3]; simp
    have hY3 := bel_step hY2 B3
    clear hw3
    go_wp2_with fail
    refine hK.out _ _ (hS _ hY3) (fun hHeld' => ?_)
    clear hK K hHeld
    have hHeld := hHeld'
    clear hHeld'
    try simp only [Act.put, List.setIfInBounds_toArray, List.set_cons_zero, List.set_cons_succ]
    refine rd1 11 (fun K hK => ?_)
    go_simp
    refine (sortedBans_any w2.heap.size M L (by omega) w3 hm3 hl3 (hXV.bel hY3)).mono ?_
    rintro e w4 ⟨p2, q2, d2, rfl, T4, M4, B4⟩
    have hY4 := bel_step hY3 B4
    go_wp2_with fail
    refine hK.out _ _ (hS _ hY4) (fun hHeld' => ?_)
    clear hK K hHeld
    have hHeld := hHeld'
    clear hHeld'
    try simp only [Act.put, List.setIfInBounds_toArray, List.set_cons_zero, List.set_cons_succ]
    refine tk 12 hHeld ?_
    have XR4 := XR.bel hY4
    have r0 : w4.cell? ⟨w.heap.size + 1, 0, none⟩ = some (.slice none 0 0) := XR4.cell 0 (by simp)
    have r1 : w4.cell? ⟨w.heap.size + 1, 1, none⟩ = some (.slice none 0 0) := XR4.cell 1 (by simp)
    have r2 : w4.cell? ⟨w.heap.size + 1, 2, none⟩ = some (.slice none 0 0) := XR4.cell 2 (by simp)
    have f0 := XR4.free 0
    have f1 := XR4.free 1
    have f2 := XR4.free 2
    have rl := XR4.lt
    refine rd1 13 (fun K hK => ?_)
    go_simp
    obtain ⟨X, HX⟩ : ∃ X, Hid (X = ((w4.setCell ⟨w.heap.size + 1, 0, none⟩ (.slice p0 n0 q0)).setCell ⟨w.heap.size + 1, 1, none⟩ (.slice p1 n1 q1)).setCell ⟨w.heap.size + 1, 2, none⟩ (.slice p2 L.length q2)) := ⟨_, (rfl : ((w4.setCell ⟨w.heap.size + 1, 0, none⟩ (.slice p0 n0 q0)).setCell ⟨w.heap.size + 1, 1, none⟩ (.slice p1 n1 q1)).setCell ⟨w.heap.size + 1, 2, none⟩ (.slice p2 L.length q2) = _)⟩
    rw [← HX.out]
    have XN4 := XN.bel hY4
    have n0' : w4.cell? ⟨w.heap.size, 0, none⟩ = some (.slice a0 n0 c0) := XN4.cell 0 (by simp)
    have n1' : w4.cell? ⟨w.heap.size, 1, none⟩ = some (.slice a1 n1 c1) := XN4.cell 1 (by simp)
    have n5' : w4.cell? ⟨w.heap.size, 5, none⟩ = some (.map (some M)) := XN4.cell 5 (by simp)
    have nl' : w.heap.size < X.heap.size := by have := XN4.lt; rw [HX.out]; simpa [World.setCell] using this
    refine hK.out _ _ ⟨by rw [HX.out]; simp [go_sem, n0'], by rw [HX.out]; simp [go_sem, n1'], by rw [HX.out]; simp [go_sem, n5'], nl'⟩ (fun hHeld' => ?_)
    clear n0' n1' n5' XN4
    clear hK K hHeld r0 r1 r2 f0 f1 f2 rl
    refine wpAnyH_done (by kernel_rfl) ?_ _
    refine NoPanic.normal ?_
    have F3 := (M4.fresh B3.out.size : Fresh w2 w4 d2)
    have F1y : Fresh V w1 d0 := ⟨F1.nd, fun x hx => ⟨Nat.le_trans hY0.out.size (F1.new x hx).1, (F1.new x hx).2⟩, F1.free⟩
    have F123 : Fresh V w4 (d0 ++ (d1 ++ d2)) := F1y.behind (bel_step hY0 B1) (F2.behind B2 F3 (bel_step B3 B4)) (bel_step B2 (bel_step B3 B4))
    have hw1 : w.heap.size + 1 < V.heap.size := XR.lt
    have hn : ∀ x ∈ d0 ++ (d1 ++ d2), x ≠ w.heap.size + 1 := fun x hx e => by have := (F123.new x hx).1; omega
    have hn0 : w.heap.size + 1 ∉ d0 := fun h => hn _ (List.mem_append.2 (.inl h)) rfl
    have hn1 : w.heap.size + 1 ∉ d1 := fun h => hn _ (List.mem_append.2 (.inr (List.mem_append.2 (.inl h)))) rfl
    have hn2 : w.heap.size + 1 ∉ d2 := fun h => hn _ (List.mem_append.2 (.inr (List.mem_append.2 (.inr h)))) rfl
    have B24 := bel_step B3 B4
    have T1' := T1.bel spotE (bel_step B2 B24)
    have T2' := T2.bel roadE B24
    have al : ∀ ds : List Nat, w.heap.size + 1 ∉ ds → (∀ x ∈ ds, x < w4.heap.size) → Alike w4 X ds := fun ds hd hl => by rw [HX.out]; exact (((Alike.refl hl).set hd _ _).set hd _ _).set hd _ _
    have HXv : Hid (GphV X (.agg #[.slice p0 n0 q0, .slice p1 n1 q1, .slice p2 L.length q2]) (tldQ g L) (d0 ++ (d1 ++ d2))) := (by
      rw [HF.out]
      exact ⟨p0, q0, p1, q1, p2, q2, d0, d1, d2, rfl, by rw [← e0, ← e1], T1'.alike spotE (al d0 hn0 (T1'.lt spotE)), T2'.alike roadE (al d1 hn1 (T2'.lt roadE)), T4.alike banE (al d2 hn2 (T4.lt banE))⟩ : GphV X (.agg #[.slice p0 n0 q0, .slice p1 n1 q1, .slice p2 L.length q2]) (tldQ g L) (d0 ++ (d1 ++ d2)))
    have HXF : Hid (Fresh w X (d0 ++ (d1 ++ d2))) := (by
      rw [HX.out]
      exact ⟨F123.nd, fun x hx => ⟨Nat.le_trans hBV.out.size (F123.new x hx).1, by simpa [World.setCell] using (F123.new x hx).2⟩, fun x hx j => by rw [World.frozen?_setCell, World.frozen?_setCell, World.frozen?_setCell]; exact F123.free x hx j⟩ : Fresh w X (d0 ++ (d1 ++ d2)))
    have HXB : Hid (Bel w X) := (by rw [HX.out]; exact bel_set (bel_set (bel_set (bel_step hBV hY4) hlo _) hlo _) hlo _ : Bel w X)
    have XRX : Blk X (w.heap.size + 1) [.slice p0 n0 q0, .slice p1 n1 q1, .slice p2 L.length q2] := by rw [HX.out]; exact ((XR4.set 0 _ (by simp)).set 1 _ (by simp)).set 2 _ (by simp)
    have s0 := XRX.cell 0 (by simp)
    have s1 := XRX.cell 1 (by simp)
    have s2 := XRX.cell 2 (by simp)
    simp only [List.getElem_cons_zero, List.getElem_cons_succ] at s0 s1 s2
    clear T1 T2 T1' T2' T4 F1 F2 F3 F123 al M4 hHeld'
    go_wp2
    exact bodyPost_ret (v := .agg #[.slice p0 n0 q0, .slice p1 n1 q1, .slice p2 L.length q2]) (by simp [results, Try.results32, go_sem, s0, s1, s2]) rfl ⟨_, _, rfl, HXv.out, HXF.out, HXB.out⟩
end Go.Proofs.Ytiagdabikbjbiaa
