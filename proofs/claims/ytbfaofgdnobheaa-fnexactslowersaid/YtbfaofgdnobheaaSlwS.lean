/-
  Slower in the model: contract.
-/
import Derived.Test.YtbfaofgdnobheaaSlwJ
import Derived.Test.YtbfaofgdnobheaaCpyG
import Derived.Test.YtbfaofgdnobheaaGphS
namespace Go.Proofs.Ytbfaofgdnobheaa
open Go.RowKit Go.Maps

theorem l11Slow_any (t p : Int) (w : World) (ht : 1 ≤ t ∧ t ≤ 1000000) (hp : 1 ≤ p ∧ p ≤ 10000) :
    Calls Try.prog 53 #[.int .i64 t, .int .i64 p] w fun e w' => e = .returned (.int .i64 (slwT t p)) ∧ w' = w := by
  have hm := mul_bd ht hp
  have hw1 : IntKind.i64.wrap (t * p) = t * p := by rw [IntKind.wrap_i64]; omega
  have hw2 : IntKind.i64.wrap (t * p + 99) = t * p + 99 := by rw [IntKind.wrap_i64]; omega
  have hq1 : Int.tdiv (t * p + 99) 100 = (t * p + 99) / 100 := run_quo (by omega)
  have h1 : decide ((t * p + 99) / 100 < 1) = false := by simp; omega
  by_cases hh : (t * p + 99) / 100 ≤ 1000000
  · have h2 : decide (1000000 < (t * p + 99) / 100) = false := by simp; omega
    have HE : Hid (slwT t p = (t * p + 99) / 100) := slwT_lo hh
    clear hh
    go_enter Try.func53, Try.ntmps53
    go_wp2
    go_ret
    exact ⟨by rw [HE.out]; rfl, rfl⟩
  · have h2 : decide (1000000 < (t * p + 99) / 100) = true := by simp; omega
    have HE : Hid (slwT t p = 1000000) := slwT_hi hh
    clear hh
    go_enter Try.func53, Try.ntmps53
    go_wp2
    go_ret
    exact ⟨by rw [HE.out]; rfl, rfl⟩

set_option maxRecDepth 100000 in
set_option maxHeartbeats 4000000 in
theorem specSlower_any (v : Value) (g : GraphD) (bs : List Nat) (ar : Option Addr) (m cr : Nat) (l : List Int) (br : List Nat) (p : Int) (w : World) (hV : GphV w v g bs) (hQ : GphQ g) (hI : Ints w ar l br) (hl : l.length = m) (hm : m ≤ 1048576) :
    Calls Try.prog 21 #[v, .slice ar m cr, .int .i64 p] w fun e w' => ∃ v' bs', e = .returned v' ∧ GphV w' v' (slQ g l p) bs' ∧ Fresh w w' bs' ∧ Bel w w' := by
  have HL : Hid (l.length = m) := hl
  clear hl
  have hV' := hV
  obtain ⟨a0, c0, a1, c1, a2, c2, b0, b1, b2, _, rfl, t0, t1, t2⟩ := hV
  obtain ⟨n0, H0⟩ : ∃ n, Hid (g.places.length = n) := ⟨_, (rfl : g.places.length = _)⟩
  obtain ⟨n1, H1⟩ : ∃ n, Hid (g.roads.length = n) := ⟨_, (rfl : g.roads.length = _)⟩
  obtain ⟨n2, H2⟩ : ∃ n, Hid (g.bans.length = n) := ⟨_, (rfl : g.bans.length = _)⟩
  rw [H0.out, H1.out, H2.out] at hV' ⊢
  obtain ⟨R, HR⟩ : ∃ R, Hid (slQ g l p = R) := ⟨_, (rfl : slQ g l p = _)⟩
  rw [HR.out]
  obtain ⟨V, HV⟩ : ∃ V, Hid (V = (w.alloc (.cells #[.slice a0 n0 c0, .slice a1 n1 c1, .slice a2 n2 c2] 40)).alloc (.cells #[.slice none 0 0, .slice none 0 0, .slice none 0 0] 40)) := ⟨_, (rfl : (w.alloc (.cells #[.slice a0 n0 c0, .slice a1 n1 c1, .slice a2 n2 c2] 40)).alloc (.cells #[.slice none 0 0, .slice none 0 0, .slice none 0 0] 40) = _)⟩
  have hBV : Bel w V := by rw [HV.out]; exact bel_alloc (bel_alloc (Bel.refl _) _) _
  have XG : Blk V w.heap.size [.slice a0 n0 c0, .slice a1 n1 c1, .slice a2 n2 c2] := by rw [HV.out]; exact (Blk.new w [.slice a0 n0 c0, .slice a1 n1 c1, .slice a2 n2 c2] _).bel (bel_alloc (Bel.refl _) _)
  have XR : Blk V (w.heap.size + 1) zer3 := by rw [HV.out]; exact Blk.new1 w _ zer3 _
  have HZ : Hid (∀ w', Bel V w' → R = ⟨[], [], []⟩ → GphV (((w'.setCell ⟨w.heap.size + 1, 0, none⟩ (.slice none 0 0)).setCell ⟨w.heap.size + 1, 1, none⟩ (.slice none 0 0)).setCell ⟨w.heap.size + 1, 2, none⟩ (.slice none 0 0)) (.agg #[.slice none 0 0, .slice none 0 0, .slice none 0 0]) R []) := fun w' _ e => by
    subst e
    exact ⟨none, 0, none, 0, none, 0, [], [], [], rfl, rfl, Sl.nil, Sl.nil, Sl.nil⟩
  have hlo : w.heap.size ≤ w.heap.size + 1 := Nat.le_succ _
  go_enter Try.func21, Try.ntmps21
  go_upto_region 1 with fail
  rw [← HV.out]
  have xg0 : V.cell? ⟨w.heap.size, 0, none⟩ = some (.slice a0 n0 c0) := XG.cell 0 (by simp)
  have xg1 : V.cell? ⟨w.heap.size, 1, none⟩ = some (.slice a1 n1 c1) := XG.cell 1 (by simp)
  have xg2 : V.cell? ⟨w.heap.size, 2, none⟩ = some (.slice a2 n2 c2) := XG.cell 2 (by simp)
  have xgl := XG.lt
  go_wp2_with fail
  refine (specGraphOk_any _ g bs _ (hV'.bel hBV) hQ).mono ?_
  rintro e w1 ⟨rfl, hb1⟩
  have hB1 := bel_step hBV hb1
  have XG1 := XG.bel hb1
  have XR1 := XR.bel hb1
  have x0 : w1.cell? ⟨w.heap.size, 0, none⟩ = some (.slice a0 n0 c0) := XG1.cell 0 (by simp)
  have x1 : w1.cell? ⟨w.heap.size, 1, none⟩ = some (.slice a1 n1 c1) := XG1.cell 1 (by simp)
  have x2 : w1.cell? ⟨w.heap.size, 2, none⟩ = some (.slice a2 n2 c2) := XG1.cell 2 (by simp)
  have xl := XG1.lt
  have r0 : w1.cell? ⟨w.heap.size + 1, 0, none⟩ = some (.slice none 0 0) := XR1.cell 0 (by simp)
  have r1 : w1.cell? ⟨w.heap.size + 1, 1, none⟩ = some (.slice none 0 0) := XR1.cell 1 (by simp)
  have r2 : w1.cell? ⟨w.heap.size + 1, 2, none⟩ = some (.slice none 0 0) := XR1.cell 2 (by simp)
  have f0 := XR1.free 0
  have f1 := XR1.free 1
  have f2 := XR1.free 2
  have rl := XR1.lt
  have XRz : Blk (((w1.setCell ⟨w.heap.size + 1, 0, none⟩ (.slice none 0 0)).setCell ⟨w.heap.size + 1, 1, none⟩ (.slice none 0 0)).setCell ⟨w.heap.size + 1, 2, none⟩ (.slice none 0 0)) (w.heap.size + 1) zer3 := ((XR1.set 0 (.slice none 0 0) (by simp)).set 1 (.slice none 0 0) (by simp)).set 2 (.slice none 0 0) (by simp)
  have s0 := XRz.cell 0 (by simp)
  have s1 := XRz.cell 1 (by simp)
  have s2 := XRz.cell 2 (by simp)
  simp only [List.getElem_cons_zero, List.getElem_cons_succ] at s0 s1 s2
  have HBz : Hid (Bel w (((w1.setCell ⟨w.heap.size + 1, 0, none⟩ (.slice none 0 0)).setCell ⟨w.heap.size + 1, 1, none⟩ (.slice none 0 0)).setCell ⟨w.heap.size + 1, 2, none⟩ (.slice none 0 0))) := bel_set (bel_set (bel_set hB1 hlo _) hlo _) hlo _
  obtain ⟨X, HX⟩ : ∃ X, Hid (X = ((w1.setCell ⟨w.heap.size + 1, 0, none⟩ (.slice none 0 0)).setCell ⟨w.heap.size + 1, 1, none⟩ (.slice none 0 0)).setCell ⟨w.heap.size + 1, 2, none⟩ (.slice none 0 0)) := ⟨_, (rfl : ((w1.setCell ⟨w.heap.size + 1, 0, none⟩ (.slice none 0 0)).setCell ⟨w.heap.size + 1, 1, none⟩ (.slice none 0 0)).setCell ⟨w.heap.size + 1, 2, none⟩ (.slice none 0 0) = _)⟩
  rw [← HX.out] at s0 s1 s2
  by_cases hP : graphP g
  rotate_left
  · have HF : Hid (R = ⟨[], [], []⟩) := (by rw [← HR.out]; exact slQ_no (fun h => hP h.1) : R = ⟨[], [], []⟩)
    rw [bP_false hP]
    go_wp2
    rw [← HX.out]
    exact bodyPost_ret (v := .agg #[.slice none 0 0, .slice none 0 0, .slice none 0 0]) (by simp [results, Try.results21, go_sem, s0, s1, s2]) rfl ⟨_, [], rfl, by rw [HX.out]; exact HZ.out w1 hb1 HF.out, Fresh.nil _ _, by rw [HX.out]; exact HBz.out⟩
  rw [bP_true hP]
  by_cases hp : 1 ≤ p ∧ p ≤ 10000
  rotate_left
  · have HF : Hid (R = ⟨[], [], []⟩) := (by rw [← HR.out]; exact slQ_no (fun h => hp h.2.1) : R = ⟨[], [], []⟩)
    by_cases hp1 : p < 1
    · have hd1 : decide (p < 1) = true := by simp [hp1]
      go_wp2
      rw [← HX.out]
      exact bodyPost_ret (v := .agg #[.slice none 0 0, .slice none 0 0, .slice none 0 0]) (by simp [results, Try.results21, go_sem, s0, s1, s2]) rfl ⟨_, [], rfl, by rw [HX.out]; exact HZ.out w1 hb1 HF.out, Fresh.nil _ _, by rw [HX.out]; exact HBz.out⟩
    · have hd1 : decide (p < 1) = false := by simp; omega
      have hd2 : decide (10000 < p) = true := by simp; omega
      go_wp2
      rw [← HX.out]
      exact bodyPost_ret (v := .agg #[.slice none 0 0, .slice none 0 0, .slice none 0 0]) (by simp [results, Try.results21, go_sem, s0, s1, s2]) rfl ⟨_, [], rfl, by rw [HX.out]; exact HZ.out w1 hb1 HF.out, Fresh.nil _ _, by rw [HX.out]; exact HBz.out⟩
  have hd1 : decide (p < 1) = false := by simp; omega
  have hd2 : decide (10000 < p) = false := by simp; omega
  by_cases hk : m ≤ 1000
  rotate_left
  · have HF : Hid (R = ⟨[], [], []⟩) := (by rw [← HR.out]; exact slQ_no (fun h => hk (by rw [← HL.out]; exact h.2.2)) : R = ⟨[], [], []⟩)
    have hkd : decide ((1000 : Int) < (m : Int)) = true := by simp; omega
    go_wp2
    rw [← HX.out]
    exact bodyPost_ret (v := .agg #[.slice none 0 0, .slice none 0 0, .slice none 0 0]) (by simp [results, Try.results21, go_sem, s0, s1, s2]) rfl ⟨_, [], rfl, by rw [HX.out]; exact HZ.out w1 hb1 HF.out, Fresh.nil _ _, by rw [HX.out]; exact HBz.out⟩
  have HF : Hid (R = ⟨g.places, g.roads.map (slw1 (fun x => decide (x ∈ l)) p), g.bans⟩) := (by rw [← HR.out]; exact slQ_at hP hp (by rw [HL.out]; exact hk) : R = ⟨g.places, g.roads.map (slw1 (fun x => decide (x ∈ l)) p), g.bans⟩)
  have hkd : decide ((1000 : Int) < (m : Int)) = false := by simp; omega
  have HP : Hid (graphP g) := hP
  have m0 : n0 ≤ 5000 := by rw [← H0.out]; exact hP.1.1
  have m1 : n1 ≤ 8000 := by rw [← H1.out]; exact hP.1.2.1
  have m2 : n2 ≤ 2000 := by rw [← H2.out]; exact hP.1.2.2
  clear s0 s1 s2 HX HBz HZ XRz hP r0 r1 r2 f0 f1 f2 rl xg0 xg1 xg2 xgl
  go_wp2_with fail
  refine (l9Copy_any _ _ _ _ _ _ _ _ _ g b0 b1 b2 _ (t0.bel spotE hB1) (t1.bel roadE hB1) (t2.bel banE hB1) H0.out H1.out H2.out (by omega) (by omega) (by omega)).mono ?_
  rintro e w2 ⟨v', bs', rfl, V2, F2, hb2⟩
  obtain ⟨p0, q0, p1, q1, p2, q2, d0, d1, d2, rfl, rfl, T0, T1, T2⟩ := V2
  simp only [H0.out, H1.out, H2.out]
  obtain ⟨wA, HwA⟩ : ∃ wA, Hid (wA = w2.alloc (.cells #[.slice p0 n0 q0, .slice p1 n1 q1, .slice p2 n2 q2] 40)) := ⟨_, (rfl : w2.alloc (.cells #[.slice p0 n0 q0, .slice p1 n1 q1, .slice p2 n2 q2] 40) = _)⟩
  have hbA : Bel w2 wA := by rw [HwA.out]; exact bel_alloc (Bel.refl _) _
  have XB : Blk wA w2.heap.size [.slice p0 n0 q0, .slice p1 n1 q1, .slice p2 n2 q2] := by rw [HwA.out]; exact Blk.new w2 [.slice p0 n0 q0, .slice p1 n1 q1, .slice p2 n2 q2] _
  have hB2 := bel_step hB1 hb2
  have hBA : Bel w1 wA := bel_step hb2 hbA
  have HF2 : Fresh w1 wA (d0 ++ (d1 ++ d2)) := F2.bel hbA
  have hoff1 : Hid (∀ x ∈ d1, x ≠ w2.heap.size) := fun x hx e => by have := (F2.new x (List.mem_append.2 (.inr (List.mem_append.2 (.inl hx))))).2; omega
  have hd := F2.nd
  obtain ⟨_, nd12, y0⟩ := List.nodup_append.1 hd
  obtain ⟨_, _, y1⟩ := List.nodup_append.1 nd12
  have D01 : Hid (∀ x ∈ d1, x ∉ d0) := fun x hx hy => y0 x hy x (List.mem_append.2 (.inl hx)) rfl
  have D12 : Hid (∀ x ∈ d1, x ∉ d2) := fun x hx hy => y1 x hx x hy rfl
  have T1' : RoadL wA p1 (slL (fun x => decide (x ∈ l)) p g.roads 0) d1 := by rw [slL_zero]; exact T1.bel roadE hbA
  have T0' := T0.bel spotE hbA
  have T2' := T2.bel banE hbA
  have XRA := XR1.bel hBA
  clear hd nd12 y0 y1 T1 T0 T2 F2 x0 x1 x2 xl
  go_wp2
  rw [← HwA.out]
  clear HwA
  go_loopw [8] (fun i wr => ∃ k : Nat, k ≤ n1 ∧ i = .int .i64 k ∧ RoadL wr p1 (slL (fun x => decide (x ∈ l)) p g.roads k) d1 ∧ SpotL wr p0 g.places d0 ∧ BanL wr p2 g.bans d2 ∧ Blk wr w2.heap.size [.slice p0 n0 q0, .slice p1 n1 q1, .slice p2 n2 q2] ∧ Fresh w1 wr (d0 ++ (d1 ++ d2)) ∧ Bel w1 wr) (fun i _ => n1 - (intOf i).toNat)
  case atStart => exact ⟨0, Nat.zero_le _, rfl, T1', T0', T2', XB, HF2, hBA⟩
  case round =>
    clear T1' T0' T2' XB HF2 hBA XRA
    obtain ⟨k, hkk, rfl, T1, T0, T2, XB, HFr, hBr⟩ := hrel
    have z1 : wr.cell? ⟨w2.heap.size, 1, none⟩ = some (.slice p1 n1 q1) := XB.cell 1 (by simp)
    have zl := XB.lt
    by_cases hlt : k < n1
    · have hkl : k < g.roads.length := by rw [H1.out]; exact hlt
      have hkl' : k < (slL (fun x => decide (x ∈ l)) p g.roads k).length := by rw [slL_len]; exact hkl
      obtain ⟨b, off, f, rfl, hb, hx⟩ := T1.out hkl'
      have hbd := sl_mem T1 hkl'
      have hxk := hx k hkl'
      have HE : Hid ((slL (fun x => decide (x ∈ l)) p g.roads k)[k] = g.roads[k]) := slL_ge hkl (Nat.le_refl _)
      rw [HE.out] at hxk
      have hro := roadB_out (HP.out.2.2.1 k hkl)
      obtain ⟨d, Hd⟩ : ∃ d, Hid (g.roads[k] = d) := ⟨_, (rfl : g.roads[k] = _)⟩
      rw [Hd.out] at hxk hro
      obtain ⟨_, _, _, _, _, _, _, _, _, y2, y3, _⟩ := hxk
      have hti := hro.2.2.2.1
      have hkI : (k : Int) < (n1 : Int) := by omega
      clear hx hro
      rcases Bool.eq_false_or_eq_true (decide (d.way ∈ l)) with hs | hs
      · go_wp2_with fail
        refine (l2HasId_any _ _ _ l br d.way _ (hI.bel intE (bel_step hB1 hBr)) HL.out hm).mono ?_
        rintro e w' ⟨rfl, hw⟩
        have hw := hw.symm
        subst hw
        rw [hs]
        have fz := HFr.free b (List.mem_append.2 (.inr (List.mem_append.2 (.inl hbd)))) (off + k * 6 + 3)
        have hbV := (HFr.new b (List.mem_append.2 (.inr (List.mem_append.2 (.inl hbd))))).1
        have hne := hoff1.out b hbd
        have hne' : w2.heap.size ≠ b := fun e => hne e.symm
        obtain ⟨Y, HY⟩ : ∃ Y, Hid (slwT d.time p = Y) := ⟨_, (rfl : slwT d.time p = _)⟩
        have hsb := slwT_bd hti hp
        rw [HY.out] at hsb
        have cS : ∀ w', Calls Try.prog 53 #[.int .i64 d.time, .int .i64 p] w' fun e w'' => e = .returned (.int .i64 Y) ∧ w'' = w' := fun w' => by rw [← HY.out]; exact l11Slow_any _ _ _ hti hp
        have HT1 : Hid (RoadL (wr.setCell ⟨b, off + k * 6 + 3, none⟩ (.int .i64 Y)).drew (some ⟨b, off, none⟩) (slL (fun x => decide (x ∈ l)) p g.roads (k + 1)) d1) := (by
          have h1 := road_set T1 hkl' HE.out (t := Y) ⟨by omega, by omega⟩
          rw [Hd.out] at h1
          have h2 := slL_yes (S := fun x => decide (x ∈ l)) (p := p) hkl (by rw [Hd.out]; exact hs)
          rw [Hd.out] at h2
          unfold slwD at h2
          rw [HY.out] at h2
          rw [← h2]
          exact h1.bel roadE (Bel.refl _).drew : RoadL (wr.setCell ⟨b, off + k * 6 + 3, none⟩ (.int .i64 Y)).drew (some ⟨b, off, none⟩) (slL (fun x => decide (x ∈ l)) p g.roads (k + 1)) d1)
        have HT0 : Hid (SpotL (wr.setCell ⟨b, off + k * 6 + 3, none⟩ (.int .i64 Y)).drew p0 g.places d0) := (T0.alike spotE ((Alike.refl (T0.lt spotE)).set (D01.out b hbd) _ _)).bel spotE (Bel.refl _).drew
        have HT2 : Hid (BanL (wr.setCell ⟨b, off + k * 6 + 3, none⟩ (.int .i64 Y)).drew p2 g.bans d2) := (T2.alike banE ((Alike.refl (T2.lt banE)).set (D12.out b hbd) _ _)).bel banE (Bel.refl _).drew
        have HXB : Hid (Blk (wr.setCell ⟨b, off + k * 6 + 3, none⟩ (.int .i64 Y)).drew w2.heap.size [.slice p0 n0 q0, .slice (some ⟨b, off, none⟩) n1 q1, .slice p2 n2 q2]) := (XB.far (hoff1.out b hbd)).bel (Bel.refl _).drew
        have HFF : Hid (Fresh w1 (wr.setCell ⟨b, off + k * 6 + 3, none⟩ (.int .i64 Y)).drew (d0 ++ (d1 ++ d2))) := Fresh.bel ⟨HFr.nd, fun x hx => ⟨(HFr.new x hx).1, by simpa [World.setCell] using (HFr.new x hx).2⟩, fun x hx j => by rw [World.frozen?_setCell]; exact HFr.free x hx j⟩ (Bel.refl _).drew
        have HBB : Hid (Bel w1 (wr.setCell ⟨b, off + k * 6 + 3, none⟩ (.int .i64 Y)).drew) := (bel_set hBr hbV _).drew
        have g1 : wr.drew.cell? ⟨w2.heap.size, 1, none⟩ = some (.slice (some ⟨b, off, none⟩) n1 q1) := z1
        have gk : ∀ w' : World, w'.cell? ⟨w2.heap.size, 1, none⟩ = some (.slice (some ⟨b, off, none⟩) n1 q1) → (w'.setCell ⟨b, off + k * 6 + 3, none⟩ (.int .i64 Y)).cell? ⟨w2.heap.size, 1, none⟩ = some (.slice (some ⟨b, off, none⟩) n1 q1) := fun w' h => by rw [World.cell?_setCell_other _ _ _ _ (fun e => hne (congrArg Addr.block e))]; exact h
        clear T1 T0 T2 XB HFr
        go_upto_region 8 with fail
        refine wp_region_noPanic ?_
        refine wp_region_held_drew (S := fun w' => w'.cell? ⟨w2.heap.size, 1, none⟩ = some (.slice (some ⟨b, off, none⟩) n1 q1)) (by kernel_rfl) (g1) (fun hHeld => ?_)
        refine wpAnyH_take (i := 0) (oi := { dst := some 43, op := Go.Op.fieldAddr 40 (Go.Operand.tmp 7) 1, type := 0, pos := "l11_tables.go:71", after := #[], guard := none }) (v := ?vab0) rfl (by kernel_rfl) (by kernel_rfl) (by kernel_rfl) (fun _ _ _ h => h) (Or.inl ⟨by rfl, ?hab0⟩) hHeld ?rab0
        case hab0 => (intro w hSw; (try dsimp only at hSw); go_simp; try with_reducible rfl)
        try simp only [Act.put, List.setIfInBounds_toArray, List.set_cons_zero, List.set_cons_succ]
        refine wpAnyH_take (i := 1) (oi := { dst := some 44, op := Go.Op.load 37 (Go.Operand.tmp 43), type := 37, pos := "l11_tables.go:71", after := #[{ on := 0, ground := Go.Ground.data }], guard := none }) (v := ?vab1) rfl (by kernel_rfl) (by kernel_rfl) (by kernel_rfl) (fun _ _ _ h => h) (Or.inl ⟨by rfl, ?hab1⟩) hHeld ?rab1
        case hab1 => (intro w hSw; (try dsimp only at hSw); go_simp; try with_reducible rfl)
        try simp only [Act.put, List.setIfInBounds_toArray, List.set_cons_zero, List.set_cons_succ]
        refine wpAnyH_take (i := 2) (oi := { dst := some 45, op := Go.Op.move (Go.Operand.tmp 8), type := 3, pos := "l11_tables.go:71", after := #[], guard := none }) (v := ?vab2) rfl (by kernel_rfl) (by kernel_rfl) (by kernel_rfl) (fun _ _ _ h => h) (Or.inl ⟨by rfl, ?hab2⟩) hHeld ?rab2
        case hab2 => (intro w hSw; (try dsimp only at hSw); go_simp; try with_reducible rfl)
        try simp only [Act.put, List.setIfInBounds_toArray, List.set_cons_zero, List.set_cons_succ]
        refine wpAnyH_take (i := 3) (oi := { dst := some 46, op := Go.Op.fieldAddr 40 (Go.Operand.tmp 7) 1, type := 0, pos := "l11_tables.go:71", after := #[], guard := none }) (v := ?vab3) rfl (by kernel_rfl) (by kernel_rfl) (by kernel_rfl) (fun _ _ _ h => h) (Or.inl ⟨by rfl, ?hab3⟩) hHeld ?rab3
        case hab3 => (intro w hSw; (try dsimp only at hSw); go_simp; try with_reducible rfl)
        try simp only [Act.put, List.setIfInBounds_toArray, List.set_cons_zero, List.set_cons_succ]
        refine wpAnyH_take (i := 4) (oi := { dst := some 47, op := Go.Op.load 37 (Go.Operand.tmp 46), type := 37, pos := "l11_tables.go:71", after := #[{ on := 3, ground := Go.Ground.data }], guard := none }) (v := ?vab4) rfl (by kernel_rfl) (by kernel_rfl) (by kernel_rfl) (fun _ _ _ h => h) (Or.inl ⟨by rfl, ?hab4⟩) hHeld ?rab4
        case hab4 => (intro w hSw; (try dsimp only at hSw); go_simp; try with_reducible rfl)
        try simp only [Act.put, List.setIfInBounds_toArray, List.set_cons_zero, List.set_cons_succ]
        refine wpAnyH_take (i := 5) (oi := { dst := some 48, op := Go.Op.move (Go.Operand.tmp 8), type := 3, pos := "l11_tables.go:71", after := #[], guard := none }) (v := ?vab5) rfl (by kernel_rfl) (by kernel_rfl) (by kernel_rfl) (fun _ _ _ h => h) (Or.inl ⟨by rfl, ?hab5⟩) hHeld ?rab5
        case hab5 => (intro w hSw; (try dsimp only at hSw); go_simp; try with_reducible rfl)
        try simp only [Act.put, List.setIfInBounds_toArray, List.set_cons_zero, List.set_cons_succ]
        refine wpAnyH_take (i := 6) (oi := { dst := some 49, op := Go.Op.indexAddr 37 (Go.Operand.tmp 47) (Go.Operand.tmp 48), type := 0, pos := "l11_tables.go:71", after := #[{ on := 4, ground := Go.Ground.data }, { on := 5, ground := Go.Ground.data }], guard := none }) (v := ?vab6) rfl (by kernel_rfl) (by kernel_rfl) (by kernel_rfl) (fun _ _ _ h => h) (Or.inl ⟨by rfl, ?hab6⟩) hHeld ?rab6
        case hab6 => (intro w hSw; (try dsimp only at hSw); go_simp; try with_reducible rfl)
        try simp only [Act.put, List.setIfInBounds_toArray, List.set_cons_zero, List.set_cons_succ]
        refine wpAnyH_take (i := 7) (oi := { dst := some 50, op := Go.Op.fieldAddr 74 (Go.Operand.tmp 49) 3, type := 0, pos := "l11_tables.go:71", after := #[{ on := 6, ground := Go.Ground.data }], guard := none }) (v := ?vab7) rfl (by kernel_rfl) (by kernel_rfl) (by kernel_rfl) (fun _ _ _ h => h) (Or.inl ⟨by rfl, ?hab7⟩) hHeld ?rab7
        case hab7 => (intro w hSw; (try dsimp only at hSw); go_simp; try with_reducible rfl)
        try simp only [Act.put, List.setIfInBounds_toArray, List.set_cons_zero, List.set_cons_succ]
        refine wpAnyH_take (i := 9) (oi := { dst := some 52, op := Go.Op.move (Go.Operand.tmp 2), type := 2, pos := "l11_tables.go:71", after := #[], guard := none }) (v := ?vab9) rfl (by kernel_rfl) (by kernel_rfl) (by kernel_rfl) (fun _ _ _ h => h) (Or.inl ⟨by rfl, ?hab9⟩) hHeld ?rab9
        case hab9 => (intro w hSw; (try dsimp only at hSw); go_simp; try with_reducible rfl)
        try simp only [Act.put, List.setIfInBounds_toArray, List.set_cons_zero, List.set_cons_succ]
        refine wpAnyH_ready (rs := [8]) (by kernel_rfl) (by simp) ?_
        refine AllReadyH.cons (o := { dst := some 51, op := Go.Op.load 2 (Go.Operand.tmp 50), type := 2, pos := "l11_tables.go:71", after := #[{ on := 7, ground := Go.Ground.data }], guard := none }) rfl (fun K hK => ?_) AllReadyH.nil
        go_simp
        refine hK.out _ _ (hHeld) (fun hHeld' => ?_)
        clear hK K hHeld
        have hHeld := hHeld'
        clear hHeld'
        try simp only [Act.put, List.setIfInBounds_toArray, List.set_cons_zero, List.set_cons_succ]
        refine wpAnyH_ready (rs := [10]) (by kernel_rfl) (by simp) ?_
        refine AllReadyH.cons (o := { dst := some 53, op := Go.Op.call { callee := Go.Callee.value (Go.Operand.func 53), args := #[Go.Operand.tmp 51, Go.Operand.tmp 52], argTypes := #[2, 2] }, type := 2, pos := "l11_tables.go:71", after := #[{ on := 8, ground := Go.Ground.data }, { on := 9, ground := Go.Ground.data }], guard := none }) rfl (fun K hK => ?_) AllReadyH.nil
        go_simp
        refine (cS _).mono ?_
        rintro e w3 ⟨rfl, rfl⟩
        go_wp2_with fail
        refine hK.out _ _ (hHeld) (fun hHeld' => ?_)
        clear hK K hHeld
        have hHeld := hHeld'
        clear hHeld'
        try simp only [Act.put, List.setIfInBounds_toArray, List.set_cons_zero, List.set_cons_succ]
        refine wpAnyH_take (i := 11) (oi := { dst := some 54, op := Go.Op.indexAddr 37 (Go.Operand.tmp 44) (Go.Operand.tmp 45), type := 0, pos := "l11_tables.go:71", after := #[{ on := 1, ground := Go.Ground.data }, { on := 2, ground := Go.Ground.data }, { on := 0, ground := Go.Ground.phase }, { on := 1, ground := Go.Ground.phase }, { on := 2, ground := Go.Ground.phase }, { on := 3, ground := Go.Ground.phase }, { on := 4, ground := Go.Ground.phase }, { on := 5, ground := Go.Ground.phase }, { on := 6, ground := Go.Ground.phase }, { on := 7, ground := Go.Ground.phase }, { on := 8, ground := Go.Ground.phase }, { on := 9, ground := Go.Ground.phase }, { on := 10, ground := Go.Ground.phase }], guard := none }) (v := ?vab11) rfl (by kernel_rfl) (by kernel_rfl) (by kernel_rfl) (fun _ _ _ h => h) (Or.inl ⟨by rfl, ?hab11⟩) hHeld ?rab11
        case hab11 => (intro w hSw; (try dsimp only at hSw); go_simp; try with_reducible rfl)
        try simp only [Act.put, List.setIfInBounds_toArray, List.set_cons_zero, List.set_cons_succ]
        refine wpAnyH_take (i := 12) (oi := { dst := some 55, op := Go.Op.fieldAddr 74 (Go.Operand.tmp 54) 3, type := 0, pos := "l11_tables.go:71", after := #[{ on := 11, ground := Go.Ground.data }, { on := 0, ground := Go.Ground.phase }, { on := 1, ground := Go.Ground.phase }, { on := 2, ground := Go.Ground.phase }, { on := 3, ground := Go.Ground.phase }, { on := 4, ground := Go.Ground.phase }, { on := 5, ground := Go.Ground.phase }, { on := 6, ground := Go.Ground.phase }, { on := 7, ground := Go.Ground.phase }, { on := 8, ground := Go.Ground.phase }, { on := 9, ground := Go.Ground.phase }, { on := 10, ground := Go.Ground.phase }], guard := none }) (v := ?vab12) rfl (by kernel_rfl) (by kernel_rfl) (by kernel_rfl) (fun _ _ _ h => h) (Or.inl ⟨by rfl, ?hab12⟩) hHeld ?rab12
        case hab12 => (intro w hSw; (try dsimp only at hSw); go_simp; try with_reducible rfl)
        try simp only [Act.put, List.setIfInBounds_toArray, List.set_cons_zero, List.set_cons_succ]
        refine wpAnyH_ready (rs := [13]) (by kernel_rfl) (by simp) ?_
        refine AllReadyH.cons (o := { dst := none, op := Go.Op.store 2 (Go.Operand.tmp 55) (Go.Operand.tmp 53), type := 0, pos := "l11_tables.go:71", after := #[{ on := 12, ground := Go.Ground.data }, { on := 10, ground := Go.Ground.data }, { on := 10, ground := Go.Ground.chain }, { on := 0, ground := Go.Ground.phase }, { on := 1, ground := Go.Ground.phase }, { on := 2, ground := Go.Ground.phase }, { on := 3, ground := Go.Ground.phase }, { on := 4, ground := Go.Ground.phase }, { on := 5, ground := Go.Ground.phase }, { on := 6, ground := Go.Ground.phase }, { on := 7, ground := Go.Ground.phase }, { on := 8, ground := Go.Ground.phase }, { on := 9, ground := Go.Ground.phase }, { on := 10, ground := Go.Ground.phase }], guard := none }) rfl (fun K hK => ?_) AllReadyH.nil
        go_simp
        refine hK.out _ _ (gk _ hHeld) (fun hHeld' => ?_)
        clear hK K hHeld
        have hHeld := hHeld'
        clear hHeld'
        try simp only [Act.put, List.setIfInBounds_toArray, List.set_cons_zero, List.set_cons_succ]
        refine wpAnyH_done (by kernel_rfl) ?_ _
        refine NoPanic.normal ?_
        go_wp2
        go_roundw
        case rel => exact ⟨k + 1, by omega, by go_num, HT1.out, HT0.out, HT2.out, HXB.out, HFF.out, HBB.out⟩
        case measure => simp [intOf]; omega
      · have HT1 : Hid (RoadL wr (some ⟨b, off, none⟩) (slL (fun x => decide (x ∈ l)) p g.roads (k + 1)) d1) := (by rw [← slL_no hkl (by rw [Hd.out]; exact hs)]; exact T1 : RoadL wr (some ⟨b, off, none⟩) (slL (fun x => decide (x ∈ l)) p g.roads (k + 1)) d1)
        go_wp2_with fail
        refine (l2HasId_any _ _ _ l br d.way _ (hI.bel intE (bel_step hB1 hBr)) HL.out hm).mono ?_
        rintro e w' ⟨rfl, hw⟩
        have hw := hw.symm
        subst hw
        rw [hs]
        clear T1
        go_wp2
        go_roundw
        case rel => exact ⟨k + 1, by omega, by go_num, HT1.out, T0, T2, XB, HFr, hBr⟩
        case measure => simp [intOf]; omega
    · obtain rfl : k = n1 := by omega
      have v0 := XB.cell 0 (by simp)
      have v2 := XB.cell 2 (by simp)
      have XRr := XR1.bel hBr
      have r0 := XRr.cell 0 (by simp)
      have r1 := XRr.cell 1 (by simp)
      have r2 := XRr.cell 2 (by simp)
      have f0 := XRr.free 0
      have f1 := XRr.free 1
      have f2 := XRr.free 2
      have rl := XRr.lt
      simp only [List.getElem_cons_zero, List.getElem_cons_succ] at v0 v2 r0 r1 r2
      have hRV := XR1.lt
      have hw12 := hb2.out.size
      have hne : w2.heap.size ≠ w.heap.size + 1 := by omega
      have hn : ∀ x ∈ d0 ++ (d1 ++ d2), x ≠ w.heap.size + 1 := fun x hx e => by have := (HFr.new x hx).1; omega
      have hn0 : w.heap.size + 1 ∉ d0 := fun h => hn _ (List.mem_append.2 (.inl h)) rfl
      have hn1 : w.heap.size + 1 ∉ d1 := fun h => hn _ (List.mem_append.2 (.inr (List.mem_append.2 (.inl h)))) rfl
      have hn2 : w.heap.size + 1 ∉ d2 := fun h => hn _ (List.mem_append.2 (.inr (List.mem_append.2 (.inr h)))) rfl
      rw [← H1.out, slL_all] at T1
      obtain ⟨X, HX⟩ : ∃ X, Hid (X = ((wr.setCell ⟨w.heap.size + 1, 0, none⟩ (.slice p0 n0 q0)).setCell ⟨w.heap.size + 1, 1, none⟩ (.slice p1 k q1)).setCell ⟨w.heap.size + 1, 2, none⟩ (.slice p2 n2 q2)) := ⟨_, (rfl : ((wr.setCell ⟨w.heap.size + 1, 0, none⟩ (.slice p0 n0 q0)).setCell ⟨w.heap.size + 1, 1, none⟩ (.slice p1 k q1)).setCell ⟨w.heap.size + 1, 2, none⟩ (.slice p2 n2 q2) = _)⟩
      have al : ∀ ds : List Nat, w.heap.size + 1 ∉ ds → (∀ x ∈ ds, x < wr.heap.size) → Alike wr X ds := fun ds hd hl => by rw [HX.out]; exact (((Alike.refl hl).set hd _ _).set hd _ _).set hd _ _
      have HXv : Hid (GphV X (.agg #[.slice p0 n0 q0, .slice p1 k q1, .slice p2 n2 q2]) R (d0 ++ (d1 ++ d2))) := (by
        rw [HF.out]
        exact ⟨p0, q0, p1, q1, p2, q2, d0, d1, d2, rfl, by simp only [List.length_map, H0.out, H1.out, H2.out], T0.alike spotE (al d0 hn0 (T0.lt spotE)), T1.alike roadE (al d1 hn1 (T1.lt roadE)), T2.alike banE (al d2 hn2 (T2.lt banE))⟩ : GphV X (.agg #[.slice p0 n0 q0, .slice p1 k q1, .slice p2 n2 q2]) R (d0 ++ (d1 ++ d2)))
      have HXF : Hid (Fresh w X (d0 ++ (d1 ++ d2))) := (by
        rw [HX.out]
        exact ⟨HFr.nd, fun x hx => ⟨Nat.le_trans hB1.out.size (HFr.new x hx).1, by simpa [World.setCell] using (HFr.new x hx).2⟩, fun x hx j => by rw [World.frozen?_setCell, World.frozen?_setCell, World.frozen?_setCell]; exact HFr.free x hx j⟩ : Fresh w X (d0 ++ (d1 ++ d2)))
      have HXB : Hid (Bel w X) := (by rw [HX.out]; exact bel_set (bel_set (bel_set (bel_step hB1 hBr) hlo _) hlo _) hlo _ : Bel w X)
      have XRX : Blk X (w.heap.size + 1) [.slice p0 n0 q0, .slice p1 k q1, .slice p2 n2 q2] := by rw [HX.out]; exact ((XRr.set 0 _ (by simp)).set 1 _ (by simp)).set 2 _ (by simp)
      have s0 := XRX.cell 0 (by simp)
      have s1 := XRX.cell 1 (by simp)
      have s2 := XRX.cell 2 (by simp)
      simp only [List.getElem_cons_zero, List.getElem_cons_succ] at s0 s1 s2
      clear T0 T1 T2 HFr al
      go_wp2
      rw [← HX.out]
      exact bodyPost_ret (v := .agg #[.slice p0 n0 q0, .slice p1 k q1, .slice p2 n2 q2]) (by simp [results, Try.results21, go_sem, s0, s1, s2]) rfl ⟨_, _, rfl, HXv.out, HXF.out, HXB.out⟩
end Go.Proofs.Ytbfaofgdnobheaa

