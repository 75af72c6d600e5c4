/-
  Slower in the program: contract.
-/
import Derived.Test.YtbfaofgdnobheaaSlwI
namespace Go.Proofs.Ytbfaofgdnobheaa
open Go.RowKit Go.Maps

theorem percentOk_any (p : Int) (r : Bool) (w : World) (h : (decide (1 ≤ p) && decide (p ≤ 10000)) = r) :
    Calls Try.prog 54 #[.int .i64 p] w fun e w' => e = .returned (.bool r) ∧ w' = w := by
  by_cases h0 : 1 ≤ p
  · by_cases h1 : p ≤ 10000
    · obtain rfl : r = true := by rw [← h]; simp [h0, h1]
      clear h
      go_enter Try.func54, Try.ntmps54
      go_wp2
      go_ret
      exact ⟨rfl, rfl⟩
    · obtain rfl : r = false := by rw [← h]; simp [h1]
      clear h
      go_enter Try.func54, Try.ntmps54
      go_wp2
      go_ret
      exact ⟨rfl, rfl⟩
  · obtain rfl : r = false := by rw [← h]; simp [h0]
    clear h
    go_enter Try.func54, Try.ntmps54
    go_wp2
    go_ret
    exact ⟨rfl, rfl⟩

set_option maxHeartbeats 1000000 in
theorem slower1_any (bS M n : Nat) (s : Int → Prop) (d : RoadD) (w : World) (hX : Blk w bS [.map (some M)]) (hS : SetAt w M n s) (hw : In64 d.way) :
    Calls Try.prog 57 #[.agg #[.int .i64 d.fr, .int .i64 d.to, .int .i64 d.way, .int .i64 d.time, .int .i64 d.len, .string d.name], .pointer (some ⟨bS, 0, none⟩)] w fun e w' => e = .returned (.bool (bP (s d.way))) ∧ Bel w w' := by
  obtain ⟨W, HW⟩ : ∃ W, Hid (W = w.alloc (.cells #[.int .i64 d.fr, .int .i64 d.to, .int .i64 d.way, .int .i64 d.time, .int .i64 d.len, .string d.name] 74)) := ⟨_, (rfl : w.alloc (.cells #[.int .i64 d.fr, .int .i64 d.to, .int .i64 d.way, .int .i64 d.time, .int .i64 d.len, .string d.name] 74) = _)⟩
  have hBW : Bel w W := by rw [HW.out]; exact bel_alloc (Bel.refl _) _
  have X0 : Blk W w.heap.size [.int .i64 d.fr, .int .i64 d.to, .int .i64 d.way, .int .i64 d.time, .int .i64 d.len, .string d.name] := by rw [HW.out]; exact Blk.new w [.int .i64 d.fr, .int .i64 d.to, .int .i64 d.way, .int .i64 d.time, .int .i64 d.len, .string d.name] _
  have x2 : W.cell? ⟨w.heap.size, 2, none⟩ = some (.int .i64 d.way) := X0.cell 2 (by simp)
  have xl := X0.lt
  have y0 : W.cell? ⟨bS, 0, none⟩ = some (.map (some M)) := (hX.bel hBW).cell 0 (by simp)
  have yl := (hX.bel hBW).lt
  clear X0 hX
  go_enter Try.func57, Try.ntmps57
  go_upto_region 1 with fail
  rw [← HW.out]
  go_wp2_with fail
  refine (has_any M n s d.way _ (hS.bel hBW) hw).mono ?_
  rintro e w1 ⟨rfl, hb1⟩
  go_wp2
  go_ret
  exact ⟨rfl, bel_step hBW hb1⟩

set_option maxRecDepth 100000 in
set_option maxHeartbeats 4000000 in
theorem slowerI_any (v : Value) (g : GraphD) (bs : List Nat) (ar : Option Addr) (m cr : Nat) (l : List Int) (br : List Nat) (p : Int) (w : World) (hV : GphV w v g bs) (hQ : GphQ g) (hI : Ints w ar l br) (hl : l.length = m) (hm : m ≤ 1048576) :
    Calls Try.prog 22 #[v, .slice ar m cr, .int .i64 p] w fun e w' => ∃ v' bs', e = .returned v' ∧ GphV w' v' (slQ g l p) bs' ∧ Fresh w w' bs' ∧ Bel w w' := by
  have hmm := @run_makeMap Try.prog
  have HL : Hid (l.length = m) := hl
  clear hl
  have hV' := hV
  obtain ⟨a0, c0, a1, c1, a2, c2, b0, b1, b2, _, rfl, t0, t1, t2⟩ := hV
  obtain ⟨n0, H0⟩ : ∃ n, Hid (g.places.length = n) := ⟨_, (rfl : g.places.length = _)⟩
  obtain ⟨n1, H1⟩ : ∃ n, Hid (g.roads.length = n) := ⟨_, (rfl : g.roads.length = _)⟩
  obtain ⟨n2, H2⟩ : ∃ n, Hid (g.bans.length = n) := ⟨_, (rfl : g.bans.length = _)⟩
  rw [H0.out, H1.out, H2.out] at hV' ⊢
  obtain ⟨R, HR⟩ : ∃ R, Hid (slQ g l p = R) := ⟨_, (rfl : slQ g l p = _)⟩
  rw [HR.out]
  obtain ⟨V, HV⟩ : ∃ V, Hid (V = (w.alloc (.cells #[.slice a0 n0 c0, .slice a1 n1 c1, .slice a2 n2 c2] 40)).alloc (.cells #[.slice none 0 0, .slice none 0 0, .slice none 0 0] 40)) := ⟨_, (rfl : (w.alloc (.cells #[.slice a0 n0 c0, .slice a1 n1 c1, .slice a2 n2 c2] 40)).alloc (.cells #[.slice none 0 0, .slice none 0 0, .slice none 0 0] 40) = _)⟩
  have hBV : Bel w V := by rw [HV.out]; exact bel_alloc (bel_alloc (Bel.refl _) _) _
  have XG : Blk V w.heap.size [.slice a0 n0 c0, .slice a1 n1 c1, .slice a2 n2 c2] := by rw [HV.out]; exact (Blk.new w [.slice a0 n0 c0, .slice a1 n1 c1, .slice a2 n2 c2] _).bel (bel_alloc (Bel.refl _) _)
  have XR : Blk V (w.heap.size + 1) zer3 := by rw [HV.out]; exact Blk.new1 w _ zer3 _
  have HZ : Hid (∀ w', Bel V w' → R = ⟨[], [], []⟩ → GphV (((w'.setCell ⟨w.heap.size + 1, 0, none⟩ (.slice none 0 0)).setCell ⟨w.heap.size + 1, 1, none⟩ (.slice none 0 0)).setCell ⟨w.heap.size + 1, 2, none⟩ (.slice none 0 0)) (.agg #[.slice none 0 0, .slice none 0 0, .slice none 0 0]) R []) := fun w' _ e => by
    subst e
    exact ⟨none, 0, none, 0, none, 0, [], [], [], rfl, rfl, Sl.nil, Sl.nil, Sl.nil⟩
  have hlo : w.heap.size ≤ w.heap.size + 1 := Nat.le_succ _
  go_enter Try.func22, Try.ntmps22
  go_upto_region 1 with fail
  rw [← HV.out]
  have xg0 : V.cell? ⟨w.heap.size, 0, none⟩ = some (.slice a0 n0 c0) := XG.cell 0 (by simp)
  have xg1 : V.cell? ⟨w.heap.size, 1, none⟩ = some (.slice a1 n1 c1) := XG.cell 1 (by simp)
  have xg2 : V.cell? ⟨w.heap.size, 2, none⟩ = some (.slice a2 n2 c2) := XG.cell 2 (by simp)
  have xgl := XG.lt
  go_wp2_with fail
  refine (graphOk_any _ g bs _ (hV'.bel hBV) hQ).mono ?_
  rintro e w1 ⟨rfl, hb1⟩
  have hB1 := bel_step hBV hb1
  have XG1 := XG.bel hb1
  have XR1 := XR.bel hb1
  have x0 : w1.cell? ⟨w.heap.size, 0, none⟩ = some (.slice a0 n0 c0) := XG1.cell 0 (by simp)
  have x1 : w1.cell? ⟨w.heap.size, 1, none⟩ = some (.slice a1 n1 c1) := XG1.cell 1 (by simp)
  have x2 : w1.cell? ⟨w.heap.size, 2, none⟩ = some (.slice a2 n2 c2) := XG1.cell 2 (by simp)
  have xl := XG1.lt
  have r0 : w1.cell? ⟨w.heap.size + 1, 0, none⟩ = some (.slice none 0 0) := XR1.cell 0 (by simp)
  have r1 : w1.cell? ⟨w.heap.size + 1, 1, none⟩ = some (.slice none 0 0) := XR1.cell 1 (by simp)
  have r2 : w1.cell? ⟨w.heap.size + 1, 2, none⟩ = some (.slice none 0 0) := XR1.cell 2 (by simp)
  have f0 := XR1.free 0
  have f1 := XR1.free 1
  have f2 := XR1.free 2
  have rl := XR1.lt
  have XRz : Blk (((w1.setCell ⟨w.heap.size + 1, 0, none⟩ (.slice none 0 0)).setCell ⟨w.heap.size + 1, 1, none⟩ (.slice none 0 0)).setCell ⟨w.heap.size + 1, 2, none⟩ (.slice none 0 0)) (w.heap.size + 1) zer3 := ((XR1.set 0 (.slice none 0 0) (by simp)).set 1 (.slice none 0 0) (by simp)).set 2 (.slice none 0 0) (by simp)
  have s0 := XRz.cell 0 (by simp)
  have s1 := XRz.cell 1 (by simp)
  have s2 := XRz.cell 2 (by simp)
  simp only [List.getElem_cons_zero, List.getElem_cons_succ] at s0 s1 s2
  have HBz : Hid (Bel w (((w1.setCell ⟨w.heap.size + 1, 0, none⟩ (.slice none 0 0)).setCell ⟨w.heap.size + 1, 1, none⟩ (.slice none 0 0)).setCell ⟨w.heap.size + 1, 2, none⟩ (.slice none 0 0))) := bel_set (bel_set (bel_set hB1 hlo _) hlo _) hlo _
  obtain ⟨X, HX⟩ : ∃ X, Hid (X = ((w1.setCell ⟨w.heap.size + 1, 0, none⟩ (.slice none 0 0)).setCell ⟨w.heap.size + 1, 1, none⟩ (.slice none 0 0)).setCell ⟨w.heap.size + 1, 2, none⟩ (.slice none 0 0)) := ⟨_, (rfl : ((w1.setCell ⟨w.heap.size + 1, 0, none⟩ (.slice none 0 0)).setCell ⟨w.heap.size + 1, 1, none⟩ (.slice none 0 0)).setCell ⟨w.heap.size + 1, 2, none⟩ (.slice none 0 0) = _)⟩
  rw [← HX.out] at s0 s1 s2
  by_cases hP : graphP g
  rotate_left
  · have HF : Hid (R = ⟨[], [], []⟩) := (by rw [← HR.out]; exact slQ_no (fun h => hP h.1) : R = ⟨[], [], []⟩)
    rw [bP_false hP]
    go_wp2
    rw [← HX.out]
    exact bodyPost_ret (v := .agg #[.slice none 0 0, .slice none 0 0, .slice none 0 0]) (by simp [results, Try.results22, go_sem, s0, s1, s2]) rfl ⟨_, [], rfl, by rw [HX.out]; exact HZ.out w1 hb1 HF.out, Fresh.nil _ _, by rw [HX.out]; exact HBz.out⟩
  rw [bP_true hP]
  by_cases hp : 1 ≤ p ∧ p ≤ 10000
  rotate_left
  · have HF : Hid (R = ⟨[], [], []⟩) := (by rw [← HR.out]; exact slQ_no (fun h => hp h.2.1) : R = ⟨[], [], []⟩)
    go_wp2_with fail
    refine (percentOk_any p false _ (by simp only [Bool.and_eq_false_iff, decide_eq_false_iff_not]; omega)).mono ?_
    rintro e w' ⟨rfl, hw⟩
    have hw := hw.symm
    subst hw
    go_wp2
    rw [← HX.out]
    exact bodyPost_ret (v := .agg #[.slice none 0 0, .slice none 0 0, .slice none 0 0]) (by simp [results, Try.results22, go_sem, s0, s1, s2]) rfl ⟨_, [], rfl, by rw [HX.out]; exact HZ.out w1 hb1 HF.out, Fresh.nil _ _, by rw [HX.out]; exact HBz.out⟩
  go_wp2_with fail
  refine (percentOk_any p true _ (by simp only [Bool.and_eq_true, decide_eq_true_eq]; exact hp)).mono ?_
  rintro e w' ⟨rfl, hw⟩
  have hw := hw.symm
  subst hw
  by_cases hk : m ≤ 1000
  rotate_left
  · have HF : Hid (R = ⟨[], [], []⟩) := (by rw [← HR.out]; exact slQ_no (fun h => hk (by rw [← HL.out]; exact h.2.2)) : R = ⟨[], [], []⟩)
    have hkd : decide ((1000 : Int) < (m : Int)) = true := by simp; omega
    go_wp2
    rw [← HX.out]
    exact bodyPost_ret (v := .agg #[.slice none 0 0, .slice none 0 0, .slice none 0 0]) (by simp [results, Try.results22, go_sem, s0, s1, s2]) rfl ⟨_, [], rfl, by rw [HX.out]; exact HZ.out w1 hb1 HF.out, Fresh.nil _ _, by rw [HX.out]; exact HBz.out⟩
  have HF : Hid (R = ⟨g.places, g.roads.map (slw1 (fun x => decide (x ∈ l)) p), g.bans⟩) := (by rw [← HR.out]; exact slQ_at hP hp (by rw [HL.out]; exact hk) : R = ⟨g.places, g.roads.map (slw1 (fun x => decide (x ∈ l)) p), g.bans⟩)
  have hkd : decide ((1000 : Int) < (m : Int)) = false := by simp; omega
  clear s0 s1 s2 HX HBz HZ XRz
  obtain ⟨U, HU⟩ : ∃ U, Hid (U = (w1.alloc (.map #[] 0)).alloc (.cells #[.map (some w1.heap.size)] 78)) := ⟨_, (rfl : (w1.alloc (.map #[] 0)).alloc (.cells #[.map (some w1.heap.size)] 78) = _)⟩
  have hBU : Bel w1 U := by rw [HU.out]; exact bel_alloc (bel_alloc (Bel.refl _) _) _
  have hS0 : SetAt U w1.heap.size 0 (fun _ => False) := by rw [HU.out]; exact (SetAt.new w1).bel (bel_alloc (Bel.refl _) _)
  have XS : Blk U (w1.heap.size + 1) [.map (some w1.heap.size)] := by rw [HU.out]; exact Blk.new1 w1 _ [.map (some w1.heap.size)] _
  go_upto_region 4 with fail
  rw [← HU.out]
  have k0 : U.cell? ⟨w1.heap.size + 1, 0, none⟩ = some (.map (some w1.heap.size)) := XS.cell 0 (by simp)
  have kl := XS.lt
  have hbr : w1.heap.size ∉ br := fun h => absurd (bel_lt hB1 (hI.lt intE _ h)) (Nat.lt_irrefl _)
  clear x0 x1 x2 xl r0 r1 r2 f0 f1 f2 rl xg0 xg1 xg2 xgl
  go_wp2_with fail
  refine (add_any w1.heap.size 0 (fun _ => False) _ _ _ l br _ hS0 (hI.bel intE (bel_step hB1 hBU)) HL.out hm (by omega) hbr).mono ?_
  rintro e w2 ⟨rfl, hS2, hgr⟩
  have hb2 : Bel w1 w2 := bel_grow hBU hgr (fun k e => by injection e with e; omega)
  have hB2 := bel_step hB1 hb2
  have XS2 := XS.grown hgr (by omega)
  have XG2 := XG1.bel hb2
  have XR2 := XR1.bel hb2
  have x0 : w2.cell? ⟨w.heap.size, 0, none⟩ = some (.slice a0 n0 c0) := XG2.cell 0 (by simp)
  have x1 : w2.cell? ⟨w.heap.size, 1, none⟩ = some (.slice a1 n1 c1) := XG2.cell 1 (by simp)
  have x2 : w2.cell? ⟨w.heap.size, 2, none⟩ = some (.slice a2 n2 c2) := XG2.cell 2 (by simp)
  have xl := XG2.lt
  have hCC : ∀ (d : RoadD) (w' : World), Bel w2 w' → In64 d.way → Calls Try.prog 57 #[.agg #[.int .i64 d.fr, .int .i64 d.to, .int .i64 d.way, .int .i64 d.time, .int .i64 d.len, .string d.name], .pointer (some ⟨w1.heap.size + 1, 0, none⟩)] w' fun e w'' => e = .returned (.bool (decide (d.way ∈ l))) ∧ Bel w' w'' := fun d w' h hw => by
    have h1 := slower1_any (w1.heap.size + 1) w1.heap.size _ _ d w' (XS2.bel h) (hS2.bel h) hw
    have e : bP (d.way ∈ l ∨ False) = decide (d.way ∈ l) := by
      by_cases hm : d.way ∈ l
      · rw [bP_true (.inl hm), decide_eq_true hm]
      · rw [bP_false (fun hh => hh.elim hm id), decide_eq_false hm]
    rw [e] at h1
    exact h1
  clear k0 kl XS hS0 hS2 hgr
  go_wp2_with fail
  refine (slowed_any (w1.heap.size + 1) (fun x => decide (x ∈ l)) _ _ _ _ _ _ _ _ _ g b0 b1 b2 p _ (t0.bel spotE hB2) (t1.bel roadE hB2) (t2.bel banE hB2) H0.out H1.out H2.out hP hp hCC).mono ?_
  rintro e w3 ⟨v', bs', rfl, V3, F3, hb3⟩
  obtain ⟨p0, q0, p1, q1, p2, q2, d0, d1, d2, rfl, rfl, T0, T1, T2⟩ := V3
  have hB3 := bel_step hB2 hb3
  have XR3 := XR2.bel hb3
  have r0 : w3.cell? ⟨w.heap.size + 1, 0, none⟩ = some (.slice none 0 0) := XR3.cell 0 (by simp)
  have r1 : w3.cell? ⟨w.heap.size + 1, 1, none⟩ = some (.slice none 0 0) := XR3.cell 1 (by simp)
  have r2 : w3.cell? ⟨w.heap.size + 1, 2, none⟩ = some (.slice none 0 0) := XR3.cell 2 (by simp)
  have f0 := XR3.free 0
  have f1 := XR3.free 1
  have f2 := XR3.free 2
  have rl := XR3.lt
  simp only [List.length_map, H0.out, H1.out, H2.out]
  have hw2 : w.heap.size + 1 < w2.heap.size := XR2.lt
  have hn : ∀ x ∈ d0 ++ (d1 ++ d2), x ≠ w.heap.size + 1 := fun x hx e => by have := (F3.new x hx).1; omega
  have hn0 : w.heap.size + 1 ∉ d0 := fun h => hn _ (List.mem_append.2 (.inl h)) rfl
  have hn1 : w.heap.size + 1 ∉ d1 := fun h => hn _ (List.mem_append.2 (.inr (List.mem_append.2 (.inl h)))) rfl
  have hn2 : w.heap.size + 1 ∉ d2 := fun h => hn _ (List.mem_append.2 (.inr (List.mem_append.2 (.inr h)))) rfl
  obtain ⟨X, HX⟩ : ∃ X, Hid (X = ((w3.setCell ⟨w.heap.size + 1, 0, none⟩ (.slice p0 n0 q0)).setCell ⟨w.heap.size + 1, 1, none⟩ (.slice p1 n1 q1)).setCell ⟨w.heap.size + 1, 2, none⟩ (.slice p2 n2 q2)) := ⟨_, (rfl : ((w3.setCell ⟨w.heap.size + 1, 0, none⟩ (.slice p0 n0 q0)).setCell ⟨w.heap.size + 1, 1, none⟩ (.slice p1 n1 q1)).setCell ⟨w.heap.size + 1, 2, none⟩ (.slice p2 n2 q2) = _)⟩
  have al : ∀ ds : List Nat, w.heap.size + 1 ∉ ds → (∀ x ∈ ds, x < w3.heap.size) → Alike w3 X ds := fun ds hd hl => by rw [HX.out]; exact (((Alike.refl hl).set hd _ _).set hd _ _).set hd _ _
  have HXv : Hid (GphV X (.agg #[.slice p0 n0 q0, .slice p1 n1 q1, .slice p2 n2 q2]) R (d0 ++ (d1 ++ d2))) := (by
    rw [HF.out]
    exact ⟨p0, q0, p1, q1, p2, q2, d0, d1, d2, rfl, by simp only [List.length_map, H0.out, H1.out, H2.out], T0.alike spotE (al d0 hn0 (T0.lt spotE)), T1.alike roadE (al d1 hn1 (T1.lt roadE)), T2.alike banE (al d2 hn2 (T2.lt banE))⟩ : GphV X (.agg #[.slice p0 n0 q0, .slice p1 n1 q1, .slice p2 n2 q2]) R (d0 ++ (d1 ++ d2)))
  have HXF : Hid (Fresh w X (d0 ++ (d1 ++ d2))) := (by
    rw [HX.out]
    exact ⟨F3.nd, fun x hx => ⟨Nat.le_trans hB2.out.size (F3.new x hx).1, by simpa [World.setCell] using (F3.new x hx).2⟩, fun x hx j => by rw [World.frozen?_setCell, World.frozen?_setCell, World.frozen?_setCell]; exact F3.free x hx j⟩ : Fresh w X (d0 ++ (d1 ++ d2)))
  have HXB : Hid (Bel w X) := (by rw [HX.out]; exact bel_set (bel_set (bel_set hB3 hlo _) hlo _) hlo _ : Bel w X)
  have XRX : Blk X (w.heap.size + 1) [.slice p0 n0 q0, .slice p1 n1 q1, .slice p2 n2 q2] := by rw [HX.out]; exact ((XR3.set 0 _ (by simp)).set 1 _ (by simp)).set 2 _ (by simp)
  have s0 := XRX.cell 0 (by simp)
  have s1 := XRX.cell 1 (by simp)
  have s2 := XRX.cell 2 (by simp)
  simp only [List.getElem_cons_zero, List.getElem_cons_succ] at s0 s1 s2
  clear T0 T1 T2 F3 al hCC
  go_wp2
  rw [← HX.out]
  exact bodyPost_ret (v := .agg #[.slice p0 n0 q0, .slice p1 n1 q1, .slice p2 n2 q2]) (by simp [results, Try.results22, go_sem, s0, s1, s2]) rfl ⟨_, _, rfl, HXv.out, HXF.out, HXB.out⟩
end Go.Proofs.Ytbfaofgdnobheaa
