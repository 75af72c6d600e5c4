/-
  Turns forbidden, in the model: contract of spec.Forbid.
-/
import Derived.Test.YtiagdabikbjbiaaFrbS
import Derived.Test.YtiagdabikbjbiaaCpyG
import Derived.Test.YtiagdabikbjbiaaGphS
import Derived.Test.YtiagdabikbjbiaaForbidI
namespace Go.Proofs.Ytiagdabikbjbiaa
open Go.RowKit Go.Maps

theorem gph_open {w : World} {v : Value} {g : GraphD} {bs : List Nat} (h : GphV w v g bs) (hC : CapG v g.bans.length) : ∃ a0 c0 a1 c1 a2 c2 b0 b1 b2, bs = b0 ++ (b1 ++ b2) ∧ v = .agg #[.slice a0 g.places.length c0, .slice a1 g.roads.length c1, .slice a2 g.bans.length c2] ∧ SpotL w a0 g.places b0 ∧ RoadL w a1 g.roads b1 ∧ BanL w a2 g.bans b2 ∧ g.bans.length ≤ c2 := by
  obtain ⟨a0, c0, a1, c1, a2, c2, b0, b1, b2, e1, rfl, h0, h1, h2⟩ := h
  obtain ⟨x, y, a, c, e, hc⟩ := hC
  injection e with e
  injection e with e
  injection e with _ e
  injection e with _ e
  injection e with e _
  injection e with _ _ e
  exact ⟨a0, c0, a1, c1, a2, c2, b0, b1, b2, e1, rfl, h0, h1, h2, by rw [e]; exact hc⟩
theorem fresh_row {V w U wr : World} {d0 d1 d2 bs : List Nat} (hF : Fresh V w (d0 ++ (d1 ++ d2))) (hb : Bel w wr) (hU : w.heap.size ≤ U.heap.size) (hV : V.heap.size ≤ U.heap.size) (h : bs = d2 ∨ Fresh U wr bs) : Fresh V wr (d0 ++ (d1 ++ bs)) := by
  rcases h with rfl | h
  · exact hF.bel hb
  · have hF' := hF.bel hb
    have hs : ∀ x ∈ d0 ++ d1, x ∈ d0 ++ (d1 ++ d2) := fun x hx => by
      rw [← List.append_assoc]; exact List.mem_append.2 (.inl hx)
    have h01 : Fresh V wr (d0 ++ d1) := ⟨by have := hF'.nd; rw [← List.append_assoc] at this; exact (List.nodup_append.1 this).1, fun x hx => hF'.new x (hs x hx), fun x hx => hF'.free x (hs x hx)⟩
    have := h01.app (h.old hV) fun x hx hx' => by
      have h1 := (hF.new x (hs x hx)).2
      have h2 := (h.new x hx').1
      omega
    rwa [List.append_assoc] at this
theorem BRow.trans {Z wr Y w : World} {A a a' : Option Addr} {C c c' n n' : Nat} {D bs bs' : List Nat} {L L' : List BanD} (h1 : BRow Z A C D wr L a n c bs) (h2 : BRow Y a c bs w L' a' n' c' bs') (hb : Bel wr w) (hs : Z.heap.size ≤ Y.heap.size) : BRow Z A C D w L' a' n' c' bs' := by
  refine ⟨h2.row, h2.len, h2.cap, h2.srt, ?_⟩
  rcases h2.own with ⟨rfl, rfl, rfl⟩ | h
  · exact h1.own.imp id fun h => h.bel hb
  · exact .inr (h.old hs)

set_option maxRecDepth 100000 in
set_option maxHeartbeats 4000000 in
theorem specForbid_any (v : Value) (g : GraphD) (bs : List Nat) (aw : Option Addr) (m cw : Nat) (ways : List (List Int)) (bw : List Nat) (w : World) (hV : GphV w v g bs) (hQ : GphQ g) (hW : IsL w aw ways bw) (hl : ways.length = m) (hm : m ≤ 1048576) :
    Calls Try.prog 7 #[v, .slice aw m cw] w fun e w' => ∃ v' bs', e = .returned v' ∧ GphV w' v' (fbQ g ways) bs' ∧ Fresh w w' bs' ∧ Bel w w' := by
  have HL : Hid (ways.length = m) := hl
  clear hl
  have hV' := hV
  obtain ⟨a0, c0, a1, c1, a2, c2, b0, b1, b2, _, rfl, t0, t1, t2⟩ := hV
  obtain ⟨n0, H0⟩ : ∃ n, Hid (g.places.length = n) := ⟨_, (rfl : g.places.length = _)⟩
  obtain ⟨n1, H1⟩ : ∃ n, Hid (g.roads.length = n) := ⟨_, (rfl : g.roads.length = _)⟩
  obtain ⟨n2, H2⟩ : ∃ n, Hid (g.bans.length = n) := ⟨_, (rfl : g.bans.length = _)⟩
  rw [H0.out, H1.out, H2.out] at hV' ⊢
  obtain ⟨R, HR⟩ : ∃ R, Hid (fbQ g ways = R) := ⟨_, (rfl : fbQ g ways = _)⟩
  rw [HR.out]
  obtain ⟨V, HV⟩ : ∃ V, Hid (V = (w.alloc (.cells #[.slice a0 n0 c0, .slice a1 n1 c1, .slice a2 n2 c2] 34)).alloc (.cells #[.slice none 0 0, .slice none 0 0, .slice none 0 0] 34)) := ⟨_, (rfl : (w.alloc (.cells #[.slice a0 n0 c0, .slice a1 n1 c1, .slice a2 n2 c2] 34)).alloc (.cells #[.slice none 0 0, .slice none 0 0, .slice none 0 0] 34) = _)⟩
  have hBV : Bel w V := by rw [HV.out]; exact bel_alloc (bel_alloc (Bel.refl _) _) _
  have XG : Blk V w.heap.size [.slice a0 n0 c0, .slice a1 n1 c1, .slice a2 n2 c2] := by rw [HV.out]; exact (Blk.new w [.slice a0 n0 c0, .slice a1 n1 c1, .slice a2 n2 c2] _).bel (bel_alloc (Bel.refl _) _)
  have XR : Blk V (w.heap.size + 1) [.slice none 0 0, .slice none 0 0, .slice none 0 0] := by rw [HV.out]; exact Blk.new1 w _ [.slice none 0 0, .slice none 0 0, .slice none 0 0] _
  have hlo : w.heap.size ≤ w.heap.size + 1 := Nat.le_succ _
  have xg0 : V.cell? ⟨w.heap.size, 0, none⟩ = some (.slice a0 n0 c0) := XG.cell 0 (by simp)
  have xg1 : V.cell? ⟨w.heap.size, 1, none⟩ = some (.slice a1 n1 c1) := XG.cell 1 (by simp)
  have xg2 : V.cell? ⟨w.heap.size, 2, none⟩ = some (.slice a2 n2 c2) := XG.cell 2 (by simp)
  have xgl := XG.lt
  have hGr : ∀ r, bP (graphP g) = r → Calls Try.prog 22 #[gphV a0 n0 c0 a1 n1 c1 a2 n2 c2] V fun e w2 => e = .returned (.bool r) ∧ Bel V w2 := fun r hr => by
    rw [← hr]; exact specGraphOk_any _ g bs _ (hV'.bel hBV) hQ
  go_enter Try.func7, Try.ntmps7
  go_upto_region 1 with fail
  rw [← HV.out]
  by_cases hP : graphP g
  rotate_left
  · have HF : Hid (R = ⟨[], [], []⟩) := (by rw [← HR.out]; exact fbQ_no (fun h => hP h.1) : R = ⟨[], [], []⟩)
    have hG := hGr false (bP_false hP)
    clear hGr
    go_wp2_with fail
    refine hG.mono ?_
    rintro e U ⟨rfl, hBU⟩
    have XRU := XR.bel hBU
    have r0 : U.cell? ⟨w.heap.size + 1, 0, none⟩ = some (.slice none 0 0) := XRU.cell 0 (by simp)
    have r1 : U.cell? ⟨w.heap.size + 1, 1, none⟩ = some (.slice none 0 0) := XRU.cell 1 (by simp)
    have r2 : U.cell? ⟨w.heap.size + 1, 2, none⟩ = some (.slice none 0 0) := XRU.cell 2 (by simp)
    have f0 := XRU.free 0
    have f1 := XRU.free 1
    have f2 := XRU.free 2
    have rl := XRU.lt
    obtain ⟨s0, s1, s2, hBX⟩ := zer_end XRU (bel_step hBV hBU)
    have HX : Hid (zerW w U = ((U.setCell ⟨w.heap.size + 1, 0, none⟩ (.slice none 0 0)).setCell ⟨w.heap.size + 1, 1, none⟩ (.slice none 0 0)).setCell ⟨w.heap.size + 1, 2, none⟩ (.slice none 0 0)) := (rfl : zerW w U = _)
    generalize zerW w U = X at s0 s1 s2 hBX HX
    clear hG xg0 xg1 xg2 xgl
    go_wp2
    rw [← HX.out]
    refine bodyPost_ret (v := .agg #[.slice none 0 0, .slice none 0 0, .slice none 0 0]) (by simp [results, Try.results7, go_sem, s0, s1, s2]) rfl ⟨_, [], rfl, ?_, Fresh.nil _ _, hBX⟩
    rw [HF.out]
    exact ⟨none, 0, none, 0, none, 0, [], [], [], rfl, rfl, Sl.nil, Sl.nil, Sl.nil⟩
  have hG := hGr true (bP_true hP)
  clear hGr
  go_wp2_with fail
  refine hG.mono ?_
  rintro e U ⟨rfl, hBU⟩
  have XRU := XR.bel hBU
  have XGU := XG.bel hBU
  clear hG xg0 xg1 xg2 xgl
  by_cases hk : m ≤ 2000
  rotate_left
  · have HF : Hid (R = ⟨[], [], []⟩) := (by rw [← HR.out]; exact fbQ_no (fun h => hk (by rw [← HL.out]; exact h.2)) : R = ⟨[], [], []⟩)
    have hkd : (2000 : Int) < (m : Int) := by omega
    have r0 : U.cell? ⟨w.heap.size + 1, 0, none⟩ = some (.slice none 0 0) := XRU.cell 0 (by simp)
    have r1 : U.cell? ⟨w.heap.size + 1, 1, none⟩ = some (.slice none 0 0) := XRU.cell 1 (by simp)
    have r2 : U.cell? ⟨w.heap.size + 1, 2, none⟩ = some (.slice none 0 0) := XRU.cell 2 (by simp)
    have f0 := XRU.free 0
    have f1 := XRU.free 1
    have f2 := XRU.free 2
    have rl := XRU.lt
    obtain ⟨s0, s1, s2, hBX⟩ := zer_end XRU (bel_step hBV hBU)
    have HX : Hid (zerW w U = ((U.setCell ⟨w.heap.size + 1, 0, none⟩ (.slice none 0 0)).setCell ⟨w.heap.size + 1, 1, none⟩ (.slice none 0 0)).setCell ⟨w.heap.size + 1, 2, none⟩ (.slice none 0 0)) := (rfl : zerW w U = _)
    generalize zerW w U = X at s0 s1 s2 hBX HX
    go_wp2
    rw [← HX.out]
    refine bodyPost_ret (v := .agg #[.slice none 0 0, .slice none 0 0, .slice none 0 0]) (by simp [results, Try.results7, go_sem, s0, s1, s2]) rfl ⟨_, [], rfl, ?_, Fresh.nil _ _, hBX⟩
    rw [HF.out]
    exact ⟨none, 0, none, 0, none, 0, [], [], [], rfl, rfl, Sl.nil, Sl.nil, Sl.nil⟩
  have HF : Hid (R = tldQ g (fbL g ways m)) := (by rw [← HR.out, fbQ_yes ⟨hP, by rw [HL.out]; exact hk⟩, HL.out] : R = tldQ g (fbL g ways m))
  have hkd : ¬ (2000 : Int) < (m : Int) := by omega
  have m0 : n0 ≤ 5000 := by rw [← H0.out]; exact hP.1.1
  have m1 : n1 ≤ 8000 := by rw [← H1.out]; exact hP.1.2.1
  have m2 : n2 ≤ 2000 := by rw [← H2.out]; exact hP.1.2.2
  have HSP : Hid (spotsP g.places) := hP.2.1
  have hsrt : SrtB g.bans := bans_srt hP.2.2.2
  have y0 : U.cell? ⟨w.heap.size, 0, none⟩ = some (.slice a0 n0 c0) := XGU.cell 0 (by simp)
  have y1 : U.cell? ⟨w.heap.size, 1, none⟩ = some (.slice a1 n1 c1) := XGU.cell 1 (by simp)
  have y2 : U.cell? ⟨w.heap.size, 2, none⟩ = some (.slice a2 n2 c2) := XGU.cell 2 (by simp)
  have yl := XGU.lt
  have hB0U := bel_step hBV hBU
  go_wp2_with fail
  refine (l9CopyC_any a0 n0 c0 a1 n1 c1 a2 n2 c2 g b0 b1 b2 U (t0.bel spotE hB0U) (t1.bel roadE hB0U) (t2.bel banE hB0U) H0.out H1.out H2.out (by omega) (by omega) (by omega)).mono ?_
  rintro e w1 ⟨v1, d, rfl, hG1, hF1, hb1, hC1⟩
  obtain ⟨A0, C0, A1, C1, A2, C2, d0, d1, d2, rfl, rfl, T0, T1, T2, hcap⟩ := gph_open hG1 hC1
  clear hG1 hC1 y0 y1 y2 yl XG
  rw [H2.out] at hcap
  rw [H0.out, H1.out, H2.out]
  obtain ⟨Z, HZ⟩ : ∃ Z, Hid (Z = w1.alloc (.cells #[.slice A0 n0 C0, .slice A1 n1 C1, .slice A2 n2 C2] 34)) := ⟨_, (rfl : w1.alloc (.cells #[.slice A0 n0 C0, .slice A1 n1 C1, .slice A2 n2 C2] 34) = _)⟩
  have hB1Z : Bel w1 Z := by rw [HZ.out]; exact bel_alloc (Bel.refl _) _
  have XO : Blk Z w1.heap.size [.slice A0 n0 C0, .slice A1 n1 C1, .slice A2 n2 C2] := by rw [HZ.out]; exact Blk.new w1 [.slice A0 n0 C0, .slice A1 n1 C1, .slice A2 n2 C2] _
  have hsZ : Hid (w1.heap.size < Z.heap.size) := XO.lt
  have hnd2 : Hid (w1.heap.size ∉ d2) := (fun h => absurd (T2.lt banE _ h) (Nat.lt_irrefl _) : w1.heap.size ∉ d2)
  have HRZ : Hid (BRow Z A2 C2 d2 Z g.bans A2 n2 C2 d2) := (⟨T2.bel banE hB1Z, H2.out, hcap, hsrt, .inl ⟨rfl, rfl, rfl⟩⟩ : BRow Z A2 C2 d2 Z g.bans A2 n2 C2 d2)
  have hb0w1 := bel_step hB0U hb1
  have hs2 : w.heap.size + 1 < V.heap.size := XR.lt
  have hVw1 : V.heap.size ≤ w1.heap.size := Nat.le_trans hBU.out.size hb1.out.size
  have XR1 := XRU.bel hb1
  have x0 : Z.cell? ⟨w1.heap.size, 0, none⟩ = some (.slice A0 n0 C0) := XO.cell 0 (by simp)
  have x1 : Z.cell? ⟨w1.heap.size, 1, none⟩ = some (.slice A1 n1 C1) := XO.cell 1 (by simp)
  have x2 : Z.cell? ⟨w1.heap.size, 2, none⟩ = some (.slice A2 n2 C2) := XO.cell 2 (by simp)
  have xl := XO.lt
  clear x0 x1 x2 xl
  go_wp2_with fail
  rw [← HZ.out]
  go_wp2_with fail
  go_loopw [6] (fun i wr => ∃ (k : Nat) (a : Option Addr) (n c : Nat) (bs : List Nat), k ≤ m ∧ i = .int .i64 k ∧ Hid (BRow Z A2 C2 d2 wr (fbL g ways k) a n c bs) ∧ Hid (Blk wr w1.heap.size [.slice A0 n0 C0, .slice A1 n1 C1, .slice a n c]) ∧ Hid (Bel w1 wr) ∧ Hid (Z.heap.size ≤ wr.heap.size)) (fun i _ => m - (intOf i).toNat)
  case atStart => exact ⟨0, A2, n2, C2, d2, Nat.zero_le _, rfl, HRZ, XO, hB1Z, (Nat.le_refl _ : Z.heap.size ≤ Z.heap.size)⟩
  case round =>
    obtain ⟨k, a, n, c, bs, hk1, rfl, HRr, HXO, HB, Hs⟩ := hrel
    have hBr : Bel w wr := bel_step hb0w1 HB.out
    have x0 : wr.cell? ⟨w1.heap.size, 0, none⟩ = some (.slice A0 n0 C0) := HXO.out.cell 0 (by simp)
    have x1 : wr.cell? ⟨w1.heap.size, 1, none⟩ = some (.slice A1 n1 C1) := HXO.out.cell 1 (by simp)
    have x2 : wr.cell? ⟨w1.heap.size, 2, none⟩ = some (.slice a n c) := HXO.out.cell 2 (by simp)
    have xl := HXO.out.lt
    by_cases hlt : k < m
    · have hkl : k < ways.length := by rw [HL.out]; exact hlt
      have hlt' : (k : Int) < (m : Int) := by omega
      obtain ⟨b, off, f, rfl, hb, hx⟩ := hW.out hkl
      obtain ⟨ar, cr, hlr, cr0, hI⟩ := hx k hkl
      have HST : Hid (fbL g ways (k + 1) = fb1 g (fbL g ways k) ways[k]) := fbL_step hkl
      obtain ⟨t, Ht⟩ : ∃ t, ways[k] = t := ⟨_, rfl⟩
      rw [Ht] at cr0 hlr hI HST
      rw [Nat.mul_one] at cr0
      clear hx Ht hBV
      by_cases h3 : t.length = 3
      · obtain ⟨y0, y1, y2, rfl⟩ : ∃ y0 y1 y2, t = [y0, y1, y2] := by
          match t, h3 with
          | [y0, y1, y2], _ => exact ⟨y0, y1, y2, rfl⟩
        obtain ⟨br, ofr, fr, rfl, hbr, hxr⟩ := hI.out (k := 0) (by simp)
        have z0 := (hxr 0 (by simp)).2.2
        have z1 := (hxr 1 (by simp)).2.2
        have z2 := (hxr 2 (by simp)).2.2
        simp only [Nat.mul_one, Nat.add_zero, List.getElem_cons_zero, List.getElem_cons_succ] at z0 z1 z2
        simp only [List.length_cons, List.length_nil, Nat.zero_add, Nat.reduceAdd] at cr0
        have HFB : Hid (fbL g ways (k + 1) = (spl g.places y1).elim (fbL g ways k) fun p => frbB (fbL g ways k) (wyL (bgF g.roads n1 false p) g.roads y0) (wyL (bgF g.roads n1 true p) g.roads y2)) := by
          have e := HST.out
          rw [fb1_three, H1.out] at e
          exact e
        have hSx : ∀ w', Bel w w' → w'.cell? ⟨br, ofr, none⟩ = some (.int .i64 y0) ∧ w'.cell? ⟨br, ofr + 1, none⟩ = some (.int .i64 y1) ∧ w'.cell? ⟨br, ofr + 2, none⟩ = some (.int .i64 y2) ∧ w'.cell? ⟨b, off + k, none⟩ = some (.slice (some ⟨br, ofr, none⟩) 3 cr) := fun w' h => ⟨bel_cellM h hbr z0, bel_cellM h hbr z1, bel_cellM h hbr z2, bel_cellM h hb cr0⟩
        have hS : ∀ w', Bel wr w' → w'.cell? ⟨w1.heap.size, 0, none⟩ = some (.slice A0 n0 C0) ∧ w'.cell? ⟨w1.heap.size, 1, none⟩ = some (.slice A1 n1 C1) ∧ w'.cell? ⟨w1.heap.size, 2, none⟩ = some (.slice a n c) ∧ w1.heap.size < w'.heap.size ∧ w'.cell? ⟨br, ofr, none⟩ = some (.int .i64 y0) ∧ w'.cell? ⟨br, ofr + 1, none⟩ = some (.int .i64 y1) ∧ w'.cell? ⟨br, ofr + 2, none⟩ = some (.int .i64 y2) ∧ w'.cell? ⟨b, off + k, none⟩ = some (.slice (some ⟨br, ofr, none⟩) 3 cr) := fun w' h => by
          have X := HXO.out.bel h
          exact ⟨X.cell 0 (by simp), X.cell 1 (by simp), X.cell 2 (by simp), X.lt, hSx w' (bel_step hBr h)⟩
        have HSP' := HSP.out
        go_wp2_with fail
        refine wp_region_noPanic ?_
        refine wp_region_held_drew (S := fun w' => w'.cell? ⟨w1.heap.size, 0, none⟩ = some (.slice A0 n0 C0) ∧ w'.cell? ⟨w1.heap.size, 1, none⟩ = some (.slice A1 n1 C1) ∧ w'.cell? ⟨w1.heap.size, 2, none⟩ = some (.slice a n c) ∧ w1.heap.size < w'.heap.size ∧ w'.cell? ⟨br, ofr, none⟩ = some (.int .i64 y0) ∧ w'.cell? ⟨br, ofr + 1, none⟩ = some (.int .i64 y1) ∧ w'.cell? ⟨br, ofr + 2, none⟩ = some (.int .i64 y2) ∧ w'.cell? ⟨b, off + k, none⟩ = some (.slice (some ⟨br, ofr, none⟩) 3 cr)) (by kernel_rfl) (hS _ (Bel.drew (Bel.refl _))) (fun hHeld => ?_)
        have hY0 : Bel wr wr.drew := Bel.drew (Bel.refl _)
        generalize wr.drew = Y at hHeld hY0 ⊢
        refine tk 0 hHeld ?_; refine tk 1 hHeld ?_; refine tk 2 hHeld ?_; refine tk 3 hHeld ?_; refine tk 4 hHeld ?_; refine tk 5 hHeld ?_; refine tk 6 hHeld ?_; refine tk 7 hHeld ?_; refine tk 8 hHeld ?_; refine tk 9 hHeld ?_
        refine tk 10 hHeld ?_; refine tk 11 hHeld ?_; refine tk 12 hHeld ?_; refine tk 13 hHeld ?_
        refine rd1 14 (fun K hK => ?_)
        go_simp
        refine (l9Place_any A0 n0 C0 A1 n1 C1 a n c g.places d0 y1 Y (T0.bel spotE (bel_step HB.out hY0)) H0.out m0 HSP').mono ?_
        rintro e w3 ⟨rfl, hb3⟩
        have hb03 := bel_step hY0 hb3
        cases hsp : spl g.places y1 with
        | none =>
          have hq : splI g.places y1 = -1 := by unfold splI; rw [hsp]; rfl
          rw [hq]
          go_wp2_with fail
          refine hK.out _ _ (hS _ hb03) (fun hHeld' => ?_)
          clear hK K hHeld
          have hHeld := hHeld'
          clear hHeld'
          refine tk 15 hHeld ?_; refine tk 16 hHeld ?_
          refine wpAnyH_done (by kernel_rfl) ?_ _
          refine NoPanic.normal ?_
          clear hHeld
          have HF2 : Hid (fbL g ways (k + 1) = fbL g ways k) := (by have e := HFB.out; rw [hsp] at e; exact e : fbL g ways (k + 1) = fbL g ways k)
          clear x0 x1 x2 xl z0 z1 z2 cr0 hSx hS
          go_wp2_with fail
          go_roundw
          case rel => exact ⟨k + 1, a, n, c, bs, by omega, by go_num, by rw [HF2.out]; exact HRr.out.bel hb03, HXO.out.bel hb03, bel_step HB.out hb03, Nat.le_trans Hs.out hb03.out.size⟩
          case measure => simp [intOf]; omega
        | some p =>
          have hq : splI g.places y1 = (p : Int) := by unfold splI; rw [hsp]; rfl
          have hpI : (0 : Int) ≤ (p : Int) := by omega
          rw [hq]
          go_wp2_with fail
          refine hK.out _ _ (hS _ hb03) (fun hHeld' => ?_)
          clear hK K hHeld
          have hHeld := hHeld'
          clear hHeld'
          refine tk 15 hHeld ?_; refine tk 16 hHeld ?_
          refine wpAnyH_done (by kernel_rfl) ?_ _
          refine NoPanic.normal ?_
          clear hHeld
          have HF2 : Hid (fbL g ways (k + 1) = frbB (fbL g ways k) (wyL (bgF g.roads n1 false p) g.roads y0) (wyL (bgF g.roads n1 true p) g.roads y2)) := (by have e := HFB.out; rw [hsp] at e; exact e : fbL g ways (k + 1) = frbB (fbL g ways k) (wyL (bgF g.roads n1 false p) g.roads y0) (wyL (bgF g.roads n1 true p) g.roads y2))
          clear x0 x1 x2 xl hS
          go_wp2_with fail
          refine wp_region_noPanic ?_
          refine wp_region_held_drew (S := fun w' => w'.cell? ⟨br, ofr, none⟩ = some (.int .i64 y0) ∧ w'.cell? ⟨br, ofr + 1, none⟩ = some (.int .i64 y1) ∧ w'.cell? ⟨br, ofr + 2, none⟩ = some (.int .i64 y2) ∧ w'.cell? ⟨b, off + k, none⟩ = some (.slice (some ⟨br, ofr, none⟩) 3 cr)) (by kernel_rfl) (hSx _ (bel_step hBr (bel_step hb03 (Bel.drew (Bel.refl _))))) (fun hHeld => ?_)
          have hY1 : Bel w3 w3.drew := Bel.drew (Bel.refl _)
          generalize w3.drew = Y1 at hHeld hY1 ⊢
          have hb1Y := bel_step hb03 hY1
          have HR1 := HRr.out.bel hb1Y
          have XO1 := HXO.out.bel hb1Y
          have hB1Y := bel_step HB.out hb1Y
          have hs1Y := Nat.le_trans Hs.out hb1Y.out.size
          have v0 : Y1.cell? ⟨w1.heap.size, 0, none⟩ = some (.slice A0 n0 C0) := XO1.cell 0 (by simp)
          have v1 : Y1.cell? ⟨w1.heap.size, 1, none⟩ = some (.slice A1 n1 C1) := XO1.cell 1 (by simp)
          have v2 : Y1.cell? ⟨w1.heap.size, 2, none⟩ = some (.slice a n c) := XO1.cell 2 (by simp)
          have vl := XO1.lt
          refine tk 1 hHeld ?_; refine tk 2 hHeld ?_; refine tk 3 hHeld ?_; refine tk 4 hHeld ?_; refine tk 5 hHeld ?_; refine tk 6 hHeld ?_; refine tk 7 hHeld ?_; refine tk 8 hHeld ?_; refine tk 9 hHeld ?_; refine tk 10 hHeld ?_; refine tk 11 hHeld ?_; refine tk 12 hHeld ?_; refine tk 13 hHeld ?_; refine tk 14 hHeld ?_; refine tk 15 hHeld ?_; refine tk 16 hHeld ?_; refine tk 17 hHeld ?_; refine tk 18 hHeld ?_
          refine rd1 0 (fun K hK => ?_)
          go_simp
          go_wp2_with fail
          refine hK.out _ _ hHeld (fun hHeld' => ?_)
          clear hK K hHeld
          have hHeld := hHeld'
          clear hHeld'
          refine rd1 19 (fun K hK => ?_)
          go_simp
          refine (frbS_any A0 n0 C0 A1 n1 C1 a n c g (fbL g ways k) d0 d1 bs y0 y1 y2 p Y1 (T0.bel spotE hB1Y) (T1.bel roadE hB1Y) HR1.row H0.out H1.out HR1.len HR1.cap HR1.srt m0 m1 HSP' hsp).mono ?_
          rintro e w4 ⟨a', n', c', bs', rfl, HR4, hb4⟩
          rw [← HF2.out] at HR4
          have HR4' := HR1.trans HR4 hb4 hs1Y
          have XO4 := XO1.bel hb4
          have hB4 := bel_step hB1Y hb4
          have hs4 := Nat.le_trans hs1Y hb4.out.size
          clear v0 v1 v2 vl HR4
          go_wp2_with fail
          refine hK.out _ _ (hSx _ (bel_step hb0w1 hB4)) (fun hHeld' => ?_)
          clear hK K hHeld
          have hHeld := hHeld'
          clear hHeld'
          have v0 : w4.cell? ⟨w1.heap.size, 0, none⟩ = some (.slice A0 n0 C0) := XO4.cell 0 (by simp)
          have v1 : w4.cell? ⟨w1.heap.size, 1, none⟩ = some (.slice A1 n1 C1) := XO4.cell 1 (by simp)
          have v2 : w4.cell? ⟨w1.heap.size, 2, none⟩ = some (.slice a n c) := XO4.cell 2 (by simp)
          have g0 := XO4.free 0
          have g1 := XO4.free 1
          have g2 := XO4.free 2
          have vl := XO4.lt
          have hB5 : Bel w1 (((w4.setCell ⟨w1.heap.size, 0, none⟩ (.slice A0 n0 C0)).setCell ⟨w1.heap.size, 1, none⟩ (.slice A1 n1 C1)).setCell ⟨w1.heap.size, 2, none⟩ (.slice a' n' c')) := bel_set (bel_set (bel_set hB4 (Nat.le_refl _) _) (Nat.le_refl _) _) (Nat.le_refl _) _
          have XO5 : Blk (((w4.setCell ⟨w1.heap.size, 0, none⟩ (.slice A0 n0 C0)).setCell ⟨w1.heap.size, 1, none⟩ (.slice A1 n1 C1)).setCell ⟨w1.heap.size, 2, none⟩ (.slice a' n' c')) w1.heap.size [.slice A0 n0 C0, .slice A1 n1 C1, .slice a' n' c'] := ((XO4.set 0 (.slice A0 n0 C0) (by simp)).set 1 (.slice A1 n1 C1) (by simp)).set 2 (.slice a' n' c') (by simp)
          have HR5 := ((HR4'.set hsZ.out hnd2.out 0 (.slice A0 n0 C0)).set hsZ.out hnd2.out 1 (.slice A1 n1 C1)).set hsZ.out hnd2.out 2 (.slice a' n' c')
          have hs5 : Z.heap.size ≤ (((w4.setCell ⟨w1.heap.size, 0, none⟩ (.slice A0 n0 C0)).setCell ⟨w1.heap.size, 1, none⟩ (.slice A1 n1 C1)).setCell ⟨w1.heap.size, 2, none⟩ (.slice a' n' c')).heap.size := by simpa [World.setCell] using hs4
          obtain ⟨w5, HW5⟩ : ∃ w5, Hid (w5 = ((w4.setCell ⟨w1.heap.size, 0, none⟩ (.slice A0 n0 C0)).setCell ⟨w1.heap.size, 1, none⟩ (.slice A1 n1 C1)).setCell ⟨w1.heap.size, 2, none⟩ (.slice a' n' c')) := ⟨_, (rfl : ((w4.setCell ⟨w1.heap.size, 0, none⟩ (.slice A0 n0 C0)).setCell ⟨w1.heap.size, 1, none⟩ (.slice A1 n1 C1)).setCell ⟨w1.heap.size, 2, none⟩ (.slice a' n' c') = _)⟩
          rw [← HW5.out] at hB5 XO5 HR5 hs5
          refine rd1 20 (fun K hK => ?_)
          go_simp
          go_wp2_with fail
          rw [← HW5.out]
          refine hK.out _ _ (hSx _ (bel_step hb0w1 hB5)) (fun hHeld' => ?_)
          clear hK K hHeld
          refine wpAnyH_done (by kernel_rfl) ?_ _
          refine NoPanic.normal ?_
          clear hHeld' v0 v1 v2 vl g0 g1 g2
          go_wp2_with fail
          go_roundw
          case rel => exact ⟨k + 1, a', n', c', bs', by omega, by go_num, HR5, XO5, hB5, hs5⟩
          case measure => simp [intOf]; omega
      · have HF2 : Hid (fbL g ways (k + 1) = fbL g ways k) := by
          have e := HST.out
          unfold fb1 at e
          rw [if_neg h3] at e
          exact e
        have h3' : ((t.length : Int) == 3) = false := by rw [beq_eq_false_iff_ne]; omega
        have hSx : ∀ w', Bel w w' → w'.cell? ⟨b, off + k, none⟩ = some (.slice ar t.length cr) := fun w' h => bel_cellM h hb cr0
        clear h3
        go_wp2_with fail
        refine wp_region_noPanic ?_
        refine wp_region_held_drew (S := fun w' => w'.cell? ⟨b, off + k, none⟩ = some (.slice ar t.length cr)) (by kernel_rfl) (hSx _ (bel_step hBr (Bel.drew (Bel.refl _)))) (fun hHeld => ?_)
        have hY0 : Bel wr wr.drew := Bel.drew (Bel.refl _)
        generalize wr.drew = Y at hHeld hY0 ⊢
        refine tk 0 hHeld ?_; refine tk 1 hHeld ?_; refine tk 2 hHeld ?_; refine tk 3 hHeld ?_; refine tk 4 hHeld ?_; refine tk 5 hHeld ?_; refine tk 6 hHeld ?_; refine sk 7 hHeld ?_; refine sk 8 hHeld ?_; refine sk 9 hHeld ?_
        refine sk 10 hHeld ?_; refine sk 11 hHeld ?_; refine sk 12 hHeld ?_; refine sk 13 hHeld ?_; refine sk 14 hHeld ?_; refine sk 15 hHeld ?_; refine tk 16 hHeld ?_
        refine wpAnyH_done (by kernel_rfl) ?_ _
        refine NoPanic.normal ?_
        clear hHeld x0 x1 x2 xl hSx
        go_wp2_with fail
        go_roundw
        case rel => exact ⟨k + 1, a, n, c, bs, by omega, by go_num, by rw [HF2.out]; exact HRr.out.bel hY0, HXO.out.bel hY0, bel_step HB.out hY0, Nat.le_trans Hs.out hY0.out.size⟩
        case measure => simp [intOf]; omega
    · obtain rfl : k = m := by omega
      have XRr := XR1.bel HB.out
      have r0 : wr.cell? ⟨w.heap.size + 1, 0, none⟩ = some (.slice none 0 0) := XRr.cell 0 (by simp)
      have r1 : wr.cell? ⟨w.heap.size + 1, 1, none⟩ = some (.slice none 0 0) := XRr.cell 1 (by simp)
      have r2 : wr.cell? ⟨w.heap.size + 1, 2, none⟩ = some (.slice none 0 0) := XRr.cell 2 (by simp)
      have f0 := XRr.free 0
      have f1 := XRr.free 1
      have f2 := XRr.free 2
      have rl := XRr.lt
      by_cases hn : n ≤ 2000
      rotate_left
      · have hnI : (2000 : Int) < (n : Int) := by omega
        have HF' : Hid (R = ⟨[], [], []⟩) := (by rw [HF.out]; unfold tldQ; rw [if_neg (by rw [HRr.out.len]; exact hn)] : R = ⟨[], [], []⟩)
        obtain ⟨s0, s1, s2, hBX⟩ := zer_end XRr hBr
        have HX : Hid (zerW w wr = ((wr.setCell ⟨w.heap.size + 1, 0, none⟩ (.slice none 0 0)).setCell ⟨w.heap.size + 1, 1, none⟩ (.slice none 0 0)).setCell ⟨w.heap.size + 1, 2, none⟩ (.slice none 0 0)) := (rfl : zerW w wr = _)
        generalize zerW w wr = X at s0 s1 s2 hBX HX
        go_wp2_with fail
        rw [← HX.out]
        refine bodyPost_ret (v := .agg #[.slice none 0 0, .slice none 0 0, .slice none 0 0]) (by simp [results, Try.results7, go_sem, s0, s1, s2]) rfl ⟨_, [], rfl, ?_, Fresh.nil _ _, hBX⟩
        rw [HF'.out]
        exact ⟨none, 0, none, 0, none, 0, [], [], [], rfl, rfl, Sl.nil, Sl.nil, Sl.nil⟩
      · have hnI : ¬ (2000 : Int) < (n : Int) := by omega
        have HF' : Hid (R = ⟨g.places, g.roads, fbL g ways k⟩) := (by rw [HF.out]; unfold tldQ; rw [if_pos (by rw [HRr.out.len]; exact hn)] : R = ⟨g.places, g.roads, fbL g ways k⟩)
        have hd : ∀ x ∈ d0 ++ (d1 ++ d2), x ≠ w.heap.size + 1 := fun x hx e => by have := (hF1.new x hx).1; have := hBU.out.size; omega
        have hn0 : w.heap.size + 1 ∉ d0 := fun h => hd _ (List.mem_append.2 (.inl h)) rfl
        have hn1 : w.heap.size + 1 ∉ d1 := fun h => hd _ (List.mem_append.2 (.inr (List.mem_append.2 (.inl h)))) rfl
        have hn2 : w.heap.size + 1 ∉ d2 := fun h => hd _ (List.mem_append.2 (.inr (List.mem_append.2 (.inr h)))) rfl
        have hsz1 : w.heap.size + 1 < Z.heap.size := by have := hsZ.out; omega
        have FE := fresh_row hF1 HB.out (Nat.le_of_lt hsZ.out) (Nat.le_trans hb1.out.size (Nat.le_of_lt hsZ.out)) (HRr.out.own.imp (fun h => h.2.2) id)
        obtain ⟨X, HX⟩ : ∃ X, Hid (X = ((wr.setCell ⟨w.heap.size + 1, 0, none⟩ (.slice A0 n0 C0)).setCell ⟨w.heap.size + 1, 1, none⟩ (.slice A1 n1 C1)).setCell ⟨w.heap.size + 1, 2, none⟩ (.slice a n c)) := ⟨_, (rfl : ((wr.setCell ⟨w.heap.size + 1, 0, none⟩ (.slice A0 n0 C0)).setCell ⟨w.heap.size + 1, 1, none⟩ (.slice A1 n1 C1)).setCell ⟨w.heap.size + 1, 2, none⟩ (.slice a n c) = _)⟩
        have al : ∀ ds : List Nat, w.heap.size + 1 ∉ ds → (∀ x ∈ ds, x < wr.heap.size) → Alike wr X ds := fun ds hd hl => by rw [HX.out]; exact (((Alike.refl hl).set hd _ _).set hd _ _).set hd _ _
        have T0r := T0.bel spotE HB.out
        have T1r := T1.bel roadE HB.out
        have HRX : Hid (BRow Z A2 C2 d2 X (fbL g ways k) a n c bs) := (by rw [HX.out]; exact ((HRr.out.set hsz1 hn2 0 _).set hsz1 hn2 1 _).set hsz1 hn2 2 _ : BRow Z A2 C2 d2 X (fbL g ways k) a n c bs)
        have HXv : Hid (GphV X (.agg #[.slice A0 n0 C0, .slice A1 n1 C1, .slice a n c]) R (d0 ++ (d1 ++ bs))) := (by
          rw [HF'.out]
          exact ⟨A0, C0, A1, C1, a, c, d0, d1, bs, rfl, by show _ = Value.agg #[.slice A0 g.places.length C0, .slice A1 g.roads.length C1, .slice a (fbL g ways k).length c]; rw [H0.out, H1.out, HRX.out.len], T0r.alike spotE (al d0 hn0 (T0r.lt spotE)), T1r.alike roadE (al d1 hn1 (T1r.lt roadE)), HRX.out.row⟩ : GphV X (.agg #[.slice A0 n0 C0, .slice A1 n1 C1, .slice a n c]) R (d0 ++ (d1 ++ bs)))
        have HXF : Hid (Fresh w X (d0 ++ (d1 ++ bs))) := (by
          rw [HX.out]
          exact ⟨FE.nd, fun x hx => ⟨Nat.le_trans hB0U.out.size (FE.new x hx).1, by simpa [World.setCell] using (FE.new x hx).2⟩, fun x hx j => by rw [World.frozen?_setCell, World.frozen?_setCell, World.frozen?_setCell]; exact FE.free x hx j⟩ : Fresh w X (d0 ++ (d1 ++ bs)))
        have HXB : Hid (Bel w X) := (by rw [HX.out]; exact bel_set (bel_set (bel_set hBr hlo _) hlo _) hlo _ : Bel w X)
        have XRX : Blk X (w.heap.size + 1) [.slice A0 n0 C0, .slice A1 n1 C1, .slice a n c] := by rw [HX.out]; exact ((XRr.set 0 _ (by simp)).set 1 _ (by simp)).set 2 _ (by simp)
        have u0 := XRX.cell 0 (by simp)
        have u1 := XRX.cell 1 (by simp)
        have u2 := XRX.cell 2 (by simp)
        simp only [List.getElem_cons_zero, List.getElem_cons_succ] at u0 u1 u2
        clear al T0r T1r FE XRX hd
        go_wp2_with fail
        rw [← HX.out]
        exact bodyPost_ret (v := .agg #[.slice A0 n0 C0, .slice A1 n1 C1, .slice a n c]) (by simp [results, Try.results7, go_sem, u0, u1, u2]) rfl ⟨_, rfl, d0 ++ (d1 ++ bs), HXv.out, HXF.out, HXB.out⟩
end Go.Proofs.Ytiagdabikbjbiaa
