/-
  Turns back forbidden, in the program: contract of NoBack.
-/
import Derived.Test.YtiagdabikbjbiaaFbkI
import Derived.Test.YtiagdabikbjbiaaForbidI
namespace Go.Proofs.Ytiagdabikbjbiaa
open Go.RowKit Go.Maps

noncomputable def nobQ (g : GraphD) : GraphD := @ite _ (graphP g) (Classical.propDecidable _) (tldQ g (nsF g.roads g.roads.length g.bans g.roads.length)) ⟨[], [], []⟩
theorem nobQ_yes {g : GraphD} (h : graphP g) : nobQ g = tldQ g (nsF g.roads g.roads.length g.bans g.roads.length) := @if_pos _ (Classical.propDecidable _) h _ _ _
theorem nobQ_no {g : GraphD} (h : ¬ graphP g) : nobQ g = ⟨[], [], []⟩ := @if_neg _ (Classical.propDecidable _) h _ _ _
theorem nobQ_same {g : GraphD} (h : graphP g) : nobQ g = tldQ g (g.bans.foldl capB (nbF g.roads g.roads.length g.bans g.places.length)) := by
  obtain ⟨h1, h2⟩ := back_same (rs := g.roads) (n := g.roads.length) (m := g.places.length) (B := g.bans) rfl (fun i hi => (roadB_out (h.2.2.1 i hi)).2.1) (bans_srt h.2.2.2)
  rw [nobQ_yes h]
  unfold tldQ
  by_cases hl : (nsF g.roads g.roads.length g.bans g.roads.length).length ≤ 2000
  · rw [if_pos hl, if_pos (h1.2 hl), h2 hl]
  · rw [if_neg hl, if_neg (fun h => hl (h1.1 h))]

set_option maxRecDepth 100000 in
set_option maxHeartbeats 4000000 in
theorem noBackI_any (v : Value) (g : GraphD) (bs : List Nat) (w : World) (hV : GphV w v g bs) (hQ : GphQ g) :
    Calls Try.prog 17 #[v] w fun e w' => ∃ v' bs', e = .returned v' ∧ GphV w' v' (nobQ g) bs' ∧ Fresh w w' bs' ∧ Bel w w' := by
  have hV' := hV
  obtain ⟨a0, c0, a1, c1, a2, c2, b0, b1, b2, _, rfl, t0, t1, t2⟩ := hV
  obtain ⟨n0, H0⟩ : ∃ n, Hid (g.places.length = n) := ⟨_, (rfl : g.places.length = _)⟩
  obtain ⟨n1, H1⟩ : ∃ n, Hid (g.roads.length = n) := ⟨_, (rfl : g.roads.length = _)⟩
  obtain ⟨n2, H2⟩ : ∃ n, Hid (g.bans.length = n) := ⟨_, (rfl : g.bans.length = _)⟩
  rw [H0.out, H1.out, H2.out] at hV' ⊢
  obtain ⟨R, HR⟩ : ∃ R, Hid (nobQ g = R) := ⟨_, (rfl : nobQ g = _)⟩
  rw [HR.out]
  obtain ⟨V, HV⟩ : ∃ V, Hid (V = (w.alloc (.cells #[.slice a0 n0 c0, .slice a1 n1 c1, .slice a2 n2 c2] 34)).alloc (.cells #[.slice none 0 0, .slice none 0 0, .slice none 0 0] 34)) := ⟨_, (rfl : (w.alloc (.cells #[.slice a0 n0 c0, .slice a1 n1 c1, .slice a2 n2 c2] 34)).alloc (.cells #[.slice none 0 0, .slice none 0 0, .slice none 0 0] 34) = _)⟩
  have hBV : Bel w V := by rw [HV.out]; exact bel_alloc (bel_alloc (Bel.refl _) _) _
  have XG : Blk V w.heap.size [.slice a0 n0 c0, .slice a1 n1 c1, .slice a2 n2 c2] := by rw [HV.out]; exact (Blk.new w [.slice a0 n0 c0, .slice a1 n1 c1, .slice a2 n2 c2] _).bel (bel_alloc (Bel.refl _) _)
  have XR : Blk V (w.heap.size + 1) [.slice none 0 0, .slice none 0 0, .slice none 0 0] := by rw [HV.out]; exact Blk.new1 w _ [.slice none 0 0, .slice none 0 0, .slice none 0 0] _
  have hlo : w.heap.size ≤ w.heap.size + 1 := Nat.le_succ _
  have xg0 : V.cell? ⟨w.heap.size, 0, none⟩ = some (.slice a0 n0 c0) := XG.cell 0 (by simp)
  have xg1 : V.cell? ⟨w.heap.size, 1, none⟩ = some (.slice a1 n1 c1) := XG.cell 1 (by simp)
  have xg2 : V.cell? ⟨w.heap.size, 2, none⟩ = some (.slice a2 n2 c2) := XG.cell 2 (by simp)
  have xgl := XG.lt
  go_enter Try.func17, Try.ntmps17
  go_upto_region 1 with fail
  rw [← HV.out]
  by_cases hP : graphP g
  rotate_left
  · have HF : Hid (R = ⟨[], [], []⟩) := (by rw [← HR.out]; exact nobQ_no hP : R = ⟨[], [], []⟩)
    go_wp2_with fail
    refine (networkOf_noX a0 n0 c0 a1 n1 c1 a2 n2 c2 g bs V (hV'.bel hBV) hQ hP).mono ?_
    rintro e w1 ⟨rfl, hb1⟩
    obtain ⟨U, HU⟩ : ∃ U, Hid (U = w1.alloc (.cells #[.slice none 0 0, .slice none 0 0, .slice none 0 0, .slice none 0 0, .slice none 0 0, .map none] 59)) := ⟨_, (rfl : w1.alloc (.cells #[.slice none 0 0, .slice none 0 0, .slice none 0 0, .slice none 0 0, .slice none 0 0, .map none] 59) = _)⟩
    have hBU : Bel V U := by rw [HU.out]; exact bel_alloc hb1 _
    have XRU := XR.bel hBU
    have r0 : U.cell? ⟨w.heap.size + 1, 0, none⟩ = some (.slice none 0 0) := XRU.cell 0 (by simp)
    have r1 : U.cell? ⟨w.heap.size + 1, 1, none⟩ = some (.slice none 0 0) := XRU.cell 1 (by simp)
    have r2 : U.cell? ⟨w.heap.size + 1, 2, none⟩ = some (.slice none 0 0) := XRU.cell 2 (by simp)
    have f0 := XRU.free 0
    have f1 := XRU.free 1
    have f2 := XRU.free 2
    have rl := XRU.lt
    obtain ⟨s0, s1, s2, hBX⟩ := zer_end XRU (bel_step hBV hBU)
    have HX : Hid (zerW w U = ((U.setCell ⟨w.heap.size + 1, 0, none⟩ (.slice none 0 0)).setCell ⟨w.heap.size + 1, 1, none⟩ (.slice none 0 0)).setCell ⟨w.heap.size + 1, 2, none⟩ (.slice none 0 0)) := (rfl : zerW w U = _)
    generalize zerW w U = X at s0 s1 s2 hBX HX
    go_upto_region 2 with fail
    rw [← HU.out]
    go_wp2
    rw [← HX.out]
    refine bodyPost_ret (v := .agg #[.slice none 0 0, .slice none 0 0, .slice none 0 0]) (by simp [results, Try.results17, go_sem, s0, s1, s2]) rfl ⟨_, [], rfl, ?_, Fresh.nil _ _, hBX⟩
    rw [HF.out]
    exact ⟨none, 0, none, 0, none, 0, [], [], [], rfl, rfl, Sl.nil, Sl.nil, Sl.nil⟩
  go_wp2_with fail
  refine (networkOf_yesX a0 n0 c0 a1 n1 c1 a2 n2 c2 g b0 b1 b2 V (t0.bel spotE hBV) (t1.bel roadE hBV) (t2.bel banE hBV) H0.out H1.out H2.out hP).mono ?_
  rintro e w1 ⟨lo, Bb, Be, M, Vt, rfl, hT, hX, hMlo, hMb, hMe, hge, hb1⟩
  rw [H0.out] at hT ⊢
  rw [H1.out] at hT
  obtain ⟨U, HU⟩ : ∃ U, Hid (U = w1.alloc (.cells #[.slice a0 n0 c0, .slice a1 n1 c1, .slice a2 n2 c2, .slice (some ⟨Bb, 0, none⟩) n0 n0, .slice (some ⟨Be, 0, none⟩) n0 n0, .map (some M)] 59)) := ⟨_, (rfl : w1.alloc (.cells #[.slice a0 n0 c0, .slice a1 n1 c1, .slice a2 n2 c2, .slice (some ⟨Bb, 0, none⟩) n0 n0, .slice (some ⟨Be, 0, none⟩) n0 n0, .map (some M)] 59) = _)⟩
  have hB1U : Bel w1 U := by rw [HU.out]; exact bel_alloc (Bel.refl _) _
  have hBU : Bel V U := bel_step hb1 hB1U
  have XN : Blk U w1.heap.size [.slice a0 n0 c0, .slice a1 n1 c1, .slice a2 n2 c2, .slice (some ⟨Bb, 0, none⟩) n0 n0, .slice (some ⟨Be, 0, none⟩) n0 n0, .map (some M)] := by rw [HU.out]; exact Blk.new w1 [.slice a0 n0 c0, .slice a1 n1 c1, .slice a2 n2 c2, .slice (some ⟨Bb, 0, none⟩) n0 n0, .slice (some ⟨Be, 0, none⟩) n0 n0, .map (some M)] _
  have XRU := XR.bel hBU
  have hTU := hT.bel hB1U
  have hXU := hX.bel hB1U
  have hMl := hX.lt
  have hB0U := bel_step hBV hBU
  have hws : w.heap.size + 1 < V.heap.size := XR.lt
  have XGU := XG.bel hBU
  have hneg : w.heap.size ≠ M := by omega
  have hMb1 : M ∉ b1 := fun h => by have := t1.lt roadE _ h; have := hBV.out.size; omega
  have hMb2 : M ∉ b2 := fun h => by have := t2.lt banE _ h; have := hBV.out.size; omega
  clear XG xg0 xg1 xg2 xgl hT hX
  go_upto_region 2 with fail
  rw [← HU.out]
  have hsrt : SrtB g.bans := bans_srt hP.2.2.2
  have HF : Hid (R = tldQ g (g.bans.foldl capB (nbF g.roads n1 g.bans n0))) := (by rw [← HR.out, nobQ_same hP, H0.out, H1.out] : R = tldQ g (g.bans.foldl capB (nbF g.roads n1 g.bans n0)))
  have hb2 : g.bans.length ≤ 2000 := hP.1.2.2
  have m0 : n0 ≤ 5000 := by rw [← H0.out]; exact hP.1.1
  have m1 : n1 ≤ 8000 := by rw [← H1.out]; exact hP.1.2.1
  have HSP : Hid (spotsP g.places) := hP.2.1
  have y0 : U.cell? ⟨w.heap.size, 0, none⟩ = some (.slice a0 n0 c0) := XGU.cell 0 (by simp)
  have yl := XGU.lt
  go_wp2_with fail
  clear y0 yl
  go_loopw [5, 17] (fun _ i wr => ∃ k : Nat, k ≤ n0 ∧ i = .int .i64 k ∧ Hid (BX wr M (nbF g.roads n1 g.bans k)) ∧ U.grownBy wr (some M)) (fun _ i _ => n0 - (intOf i).toNat)
  case atStart => exact ⟨0, Nat.zero_le _, rfl, hXU, World.grownBy.refl _ _⟩
  case round =>
    obtain ⟨k, hk1, rfl, hX, hgr⟩ := hrel
    have hne1 : w1.heap.size ≠ M := by omega
    have hBr : Bel w wr := bel_grow hB0U hgr (fun j e => by injection e with e; omega)
    have XNr := XN.kept hgr (fun e => hne1 (by injection e))
    have XGr := XGU.kept hgr (fun e => hneg (by injection e))
    have XRr := XRU.kept hgr (fun e => by injection e with e; omega)
    have hTr := hTU.kept hgr hMlo (by exact hMb) (by exact hMe)
    have x0 : wr.cell? ⟨w1.heap.size, 0, none⟩ = some (.slice a0 n0 c0) := XNr.cell 0 (by simp)
    have x1 : wr.cell? ⟨w1.heap.size, 1, none⟩ = some (.slice a1 n1 c1) := XNr.cell 1 (by simp)
    have x2 : wr.cell? ⟨w1.heap.size, 2, none⟩ = some (.slice a2 n2 c2) := XNr.cell 2 (by simp)
    have x3 : wr.cell? ⟨w1.heap.size, 3, none⟩ = some (.slice (some ⟨Bb, 0, none⟩) n0 n0) := XNr.cell 3 (by simp)
    have x4 : wr.cell? ⟨w1.heap.size, 4, none⟩ = some (.slice (some ⟨Be, 0, none⟩) n0 n0) := XNr.cell 4 (by simp)
    have x5 : wr.cell? ⟨w1.heap.size, 5, none⟩ = some (.map (some M)) := XNr.cell 5 (by simp)
    have xl := XNr.lt
    have t0r := t0.bel spotE hBr
    have t1r := t1.bel roadE hBr
    have hlk : (nbF g.roads n1 g.bans k).length ≤ 2001 := nbF_len (by omega) k
    by_cases hlt : k < n0
    · have hlt' : (k : Int) < (n0 : Int) := by omega
      have cF := forbidBack_any lo Bb Be M Vt a0 n0 c0 a1 n1 c1 a2 n2 c2 g.roads (nbF g.roads n1 g.bans k) b1 k wr hTr hX.out hlk t1r H1.out m0 m1 hMlo (fun e => hMb e.symm) (fun e => hMe e.symm) hMb1 hlt
      go_wp2_with fail
      refine cF.mono ?_
      rintro e w3 ⟨rfl, hX3, hg3⟩
      have HX3 : Hid (BX w3 M (nbF g.roads n1 g.bans (k + 1))) := hX3
      have hg3' := hgr.trans hg3
      clear hX3 cF x0 x1 x2 x3 x4 x5 xl
      go_wp2_with fail
      go_roundw
      case rel => exact ⟨k + 1, by omega, by go_num, HX3, hg3'⟩
      case measure => simp [intOf]; omega
    · obtain rfl : k = n0 := by omega
      have y2 : wr.cell? ⟨w.heap.size, 2, none⟩ = some (.slice a2 n2 c2) := XGr.cell 2 (by simp)
      have yl := XGr.lt
      have cP := putX_any M (nbF g.roads n1 g.bans k) a2 n2 c2 g.bans b2 wr hX.out hlk (t2.bel banE hBr) H2.out (by rw [← H2.out]; omega) hMb2
      obtain ⟨Lf, HLf⟩ : ∃ l, Hid (l = g.bans.foldl capB (nbF g.roads n1 g.bans k)) := ⟨_, (rfl : g.bans.foldl capB (nbF g.roads n1 g.bans k) = _)⟩
      rw [← HLf.out] at cP HF
      clear x0 x1 x2 x3 x4
      go_wp2_with fail
      refine cP.mono ?_
      rintro e w5 ⟨rfl, hX5, hl5, hg5⟩
      have hgr5 := hgr.trans hg5
      clear cP x5 xl y2 yl XNr XGr XRr hTr t0r t1r hBr hgr hg5
      have hBr : Bel w w5 := bel_grow hB0U hgr5 (fun j e => by injection e with e; omega)
      have XNr := XN.kept hgr5 (fun e => hne1 (by injection e))
      have XRr := XRU.kept hgr5 (fun e => by injection e with e; omega)
      have x0 : w5.cell? ⟨w1.heap.size, 0, none⟩ = some (.slice a0 k c0) := XNr.cell 0 (by simp)
      have x1 : w5.cell? ⟨w1.heap.size, 1, none⟩ = some (.slice a1 n1 c1) := XNr.cell 1 (by simp)
      have x2 : w5.cell? ⟨w1.heap.size, 2, none⟩ = some (.slice a2 n2 c2) := XNr.cell 2 (by simp)
      have x3 : w5.cell? ⟨w1.heap.size, 3, none⟩ = some (.slice (some ⟨Bb, 0, none⟩) k k) := XNr.cell 3 (by simp)
      have x4 : w5.cell? ⟨w1.heap.size, 4, none⟩ = some (.slice (some ⟨Be, 0, none⟩) k k) := XNr.cell 4 (by simp)
      have x5 : w5.cell? ⟨w1.heap.size, 5, none⟩ = some (.map (some M)) := XNr.cell 5 (by simp)
      have xl := XNr.lt
      have t0r := t0.bel spotE hBr
      have t1r := t1.bel roadE hBr
      have hms : ∀ j, some M = some j → w.heap.size ≤ j := fun j e => by injection e with e; omega
      go_wp2_with fail
      refine (told_any a0 k c0 a1 n1 c1 a2 n2 c2 Bb Be M g Lf b0 b1 w5 t0r t1r H0.out H1.out m0 m1 hX5 hl5).mono ?_
      rintro e w4 ⟨v4, b4, rfl, V4, F4, hb4⟩
      obtain ⟨p0, q0, p1, q1, p2, q2, d0, d1, d2, rfl, rfl, T0, T1, T2⟩ := V4
      rw [← HF.out] at T0 T1 T2 ⊢
      obtain ⟨s0, hs0⟩ : ∃ n, R.places.length = n := ⟨_, rfl⟩
      obtain ⟨s1, hs1⟩ : ∃ n, R.roads.length = n := ⟨_, rfl⟩
      obtain ⟨s2, hs2⟩ : ∃ n, R.bans.length = n := ⟨_, rfl⟩
      have HS : Hid (R.places.length = s0 ∧ R.roads.length = s1 ∧ R.bans.length = s2) := ⟨hs0, hs1, hs2⟩
      rw [hs0, hs1, hs2]
      clear hs0 hs1 hs2
      have hB4 := bel_step hBr hb4
      have XR4 := XRr.bel hb4
      have r0 : w4.cell? ⟨w.heap.size + 1, 0, none⟩ = some (.slice none 0 0) := XR4.cell 0 (by simp)
      have r1 : w4.cell? ⟨w.heap.size + 1, 1, none⟩ = some (.slice none 0 0) := XR4.cell 1 (by simp)
      have r2 : w4.cell? ⟨w.heap.size + 1, 2, none⟩ = some (.slice none 0 0) := XR4.cell 2 (by simp)
      have f0 := XR4.free 0
      have f1 := XR4.free 1
      have f2 := XR4.free 2
      have rl := XR4.lt
      have hrw : w.heap.size + 1 < w5.heap.size := XRr.lt
      have hn : ∀ x ∈ d0 ++ (d1 ++ d2), x ≠ w.heap.size + 1 := fun x hx e => by have := (F4.new x hx).1; omega
      have hn0 : w.heap.size + 1 ∉ d0 := fun h => hn _ (List.mem_append.2 (.inl h)) rfl
      have hn1 : w.heap.size + 1 ∉ d1 := fun h => hn _ (List.mem_append.2 (.inr (List.mem_append.2 (.inl h)))) rfl
      have hn2 : w.heap.size + 1 ∉ d2 := fun h => hn _ (List.mem_append.2 (.inr (List.mem_append.2 (.inr h)))) rfl
      obtain ⟨X, HX⟩ : ∃ X, Hid (X = ((w4.setCell ⟨w.heap.size + 1, 0, none⟩ (.slice p0 s0 q0)).setCell ⟨w.heap.size + 1, 1, none⟩ (.slice p1 s1 q1)).setCell ⟨w.heap.size + 1, 2, none⟩ (.slice p2 s2 q2)) := ⟨_, (rfl : ((w4.setCell ⟨w.heap.size + 1, 0, none⟩ (.slice p0 s0 q0)).setCell ⟨w.heap.size + 1, 1, none⟩ (.slice p1 s1 q1)).setCell ⟨w.heap.size + 1, 2, none⟩ (.slice p2 s2 q2) = _)⟩
      have al : ∀ ds : List Nat, w.heap.size + 1 ∉ ds → (∀ x ∈ ds, x < w4.heap.size) → Alike w4 X ds := fun ds hd hl => by rw [HX.out]; exact (((Alike.refl hl).set hd _ _).set hd _ _).set hd _ _
      have HXv : Hid (GphV X (.agg #[.slice p0 s0 q0, .slice p1 s1 q1, .slice p2 s2 q2]) R (d0 ++ (d1 ++ d2))) := (by
        exact ⟨p0, q0, p1, q1, p2, q2, d0, d1, d2, rfl, by rw [HS.out.1, HS.out.2.1, HS.out.2.2], T0.alike spotE (al d0 hn0 (T0.lt spotE)), T1.alike roadE (al d1 hn1 (T1.lt roadE)), T2.alike banE (al d2 hn2 (T2.lt banE))⟩ : GphV X (.agg #[.slice p0 s0 q0, .slice p1 s1 q1, .slice p2 s2 q2]) R (d0 ++ (d1 ++ d2)))
      have HXF : Hid (Fresh w X (d0 ++ (d1 ++ d2))) := (by
        rw [HX.out]
        exact ⟨F4.nd, fun x hx => ⟨Nat.le_trans hBr.out.size (F4.new x hx).1, by simpa [World.setCell] using (F4.new x hx).2⟩, fun x hx j => by rw [World.frozen?_setCell, World.frozen?_setCell, World.frozen?_setCell]; exact F4.free x hx j⟩ : Fresh w X (d0 ++ (d1 ++ d2)))
      have HXB : Hid (Bel w X) := (by rw [HX.out]; exact bel_set (bel_set (bel_set hB4 hlo _) hlo _) hlo _ : Bel w X)
      have XRX : Blk X (w.heap.size + 1) [.slice p0 s0 q0, .slice p1 s1 q1, .slice p2 s2 q2] := by rw [HX.out]; exact ((XR4.set 0 _ (by simp)).set 1 _ (by simp)).set 2 _ (by simp)
      have u0 := XRX.cell 0 (by simp)
      have u1 := XRX.cell 1 (by simp)
      have u2 := XRX.cell 2 (by simp)
      simp only [List.getElem_cons_zero, List.getElem_cons_succ] at u0 u1 u2
      clear T0 T1 T2 F4 al x0 x1 x2 x3 x4 x5
      go_wp2
      rw [← HX.out]
      exact bodyPost_ret (v := .agg #[.slice p0 s0 q0, .slice p1 s1 q1, .slice p2 s2 q2]) (by simp [results, Try.results17, go_sem, u0, u1, u2]) rfl ⟨_, _, rfl, HXv.out, HXF.out, HXB.out⟩
end Go.Proofs.Ytiagdabikbjbiaa
