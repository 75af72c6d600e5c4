/-
  Paint in the model: contract.
-/
import Derived.Test.YtbebgfhblalghaaPntI
import Derived.Test.YtbebgfhblalghaaStyS
namespace Go.Proofs.Ytbebgfhblalghaa
open Go.RowKit Go.Maps

set_option maxRecDepth 100000 in
set_option maxHeartbeats 2000000 in
theorem l7Copy_any (d : RuleD) (a : Option Addr) (n c : Nat) (bs : List Nat) (W0 w : World) (h0W : Bel W0 w) (hT : Tests w a d.tests bs) (hn : d.tests.length = n) (hm : n ≤ 1048576) :
    Calls Try.prog 111 #[rulV d a n c] w fun e w' => ∃ a' c' bs', e = .returned (rulV d a' n c') ∧ Tests w' a' d.tests bs' ∧ Fresh W0 w' bs' ∧ Bel w w' := by
  obtain ⟨i0, hi0, hz0, hz1, hz2⟩ := info_parts infoTs
  have hBL : Bel w ((w.alloc (.cells #[.int .i64 d.low, .int .i64 d.high, .slice a n c, .bool d.hide, .string d.col, .int .i64 d.wd, .int .i64 d.lay] 68)).alloc (.cells #[.int .i64 0, .int .i64 0, .slice none 0 0, .bool false, .string ⟨#[]⟩, .int .i64 0, .int .i64 0] 68)) := bel_alloc (bel_alloc (Bel.refl _) _) _
  have hsL : ((w.alloc (.cells #[.int .i64 d.low, .int .i64 d.high, .slice a n c, .bool d.hide, .string d.col, .int .i64 d.wd, .int .i64 d.lay] 68)).alloc (.cells #[.int .i64 0, .int .i64 0, .slice none 0 0, .bool false, .string ⟨#[]⟩, .int .i64 0, .int .i64 0] 68)).heap.size = w.heap.size + 1 + 1 := by simp
  have X0 : Blk ((w.alloc (.cells #[.int .i64 d.low, .int .i64 d.high, .slice a n c, .bool d.hide, .string d.col, .int .i64 d.wd, .int .i64 d.lay] 68)).alloc (.cells #[.int .i64 0, .int .i64 0, .slice none 0 0, .bool false, .string ⟨#[]⟩, .int .i64 0, .int .i64 0] 68)) w.heap.size [.int .i64 d.low, .int .i64 d.high, .slice a n c, .bool d.hide, .string d.col, .int .i64 d.wd, .int .i64 d.lay] := (Blk.new w [.int .i64 d.low, .int .i64 d.high, .slice a n c, .bool d.hide, .string d.col, .int .i64 d.wd, .int .i64 d.lay] _).bel (bel_alloc (Bel.refl _) _)
  have X1 : Blk ((w.alloc (.cells #[.int .i64 d.low, .int .i64 d.high, .slice a n c, .bool d.hide, .string d.col, .int .i64 d.wd, .int .i64 d.lay] 68)).alloc (.cells #[.int .i64 0, .int .i64 0, .slice none 0 0, .bool false, .string ⟨#[]⟩, .int .i64 0, .int .i64 0] 68)) (w.heap.size + 1) [.int .i64 0, .int .i64 0, .slice none 0 0, .bool false, .string ⟨#[]⟩, .int .i64 0, .int .i64 0] := Blk.new1 w _ [.int .i64 0, .int .i64 0, .slice none 0 0, .bool false, .string ⟨#[]⟩, .int .i64 0, .int .i64 0] _
  have hown0 : (((w.alloc (.cells #[.int .i64 d.low, .int .i64 d.high, .slice a n c, .bool d.hide, .string d.col, .int .i64 d.wd, .int .i64 d.lay] 68)).alloc (.cells #[.int .i64 0, .int .i64 0, .slice none 0 0, .bool false, .string ⟨#[]⟩, .int .i64 0, .int .i64 0] 68)).alloc (.cells #[] 155)).ownsRow (w.heap.size + 1 + 1) 155 3 (.slice (some ⟨w.heap.size + 1 + 1, 0, none⟩) 0 0) 0 [] := by
    have := World.ownsRow_lit (base := w.heap.size + 1 + 1) (e := 155) (size := 3) ((w.alloc (.cells #[.int .i64 d.low, .int .i64 d.high, .slice a n c, .bool d.hide, .string d.col, .int .i64 d.wd, .int .i64 d.lay] 68)).alloc (.cells #[.int .i64 0, .int .i64 0, .slice none 0 0, .bool false, .string ⟨#[]⟩, .int .i64 0, .int .i64 0] 68)) #[] 0 (Nat.le_of_eq hsL.symm) (Nat.zero_le _) rfl
    rw [hsL] at this
    exact this
  have hT3 := hT.bel testE (bel_alloc hBL (.cells #[] 155))
  clear hT
  go_enter Try.func111, Try.ntmps111
  go_wp2_with (first
    | (at_builtin; refine wpList_append_flat testF (by decide) rfl _ _ 66 rfl (w.heap.size + 1 + 1) 155 i0 (.agg #[.string ⟨#[]⟩, .int .i64 0, .string ⟨#[]⟩]) 40 Try.underlying66 hi0 hz0 hz1 hz2 rfl _ rfl hown0 a n c d.tests bs rfl hT3 hn hm (by decide) (by simp) ?_)
    | go_in)
  intro a' c' bs' w4 HS HM hgrow
  have hB4 : Bel ((w.alloc (.cells #[.int .i64 d.low, .int .i64 d.high, .slice a n c, .bool d.hide, .string d.col, .int .i64 d.wd, .int .i64 d.lay] 68)).alloc (.cells #[.int .i64 0, .int .i64 0, .slice none 0 0, .bool false, .string ⟨#[]⟩, .int .i64 0, .int .i64 0] 68)) w4 := bel_grow (bel_alloc (Bel.refl _) _) hgrow (fun j e => by rw [hsL]; exact Nat.le_of_eq (Option.some.inj e))
  have Y0 := X0.bel hB4
  have Y1 := X1.bel hB4
  have b0 : w4.cell? ⟨w.heap.size, 0, none⟩ = some (.int .i64 d.low) := Y0.cell 0 (by simp)
  have b1 : w4.cell? ⟨w.heap.size, 1, none⟩ = some (.int .i64 d.high) := Y0.cell 1 (by simp)
  have b2 : w4.cell? ⟨w.heap.size, 2, none⟩ = some (.slice a n c) := Y0.cell 2 (by simp)
  have b3 : w4.cell? ⟨w.heap.size, 3, none⟩ = some (.bool d.hide) := Y0.cell 3 (by simp)
  have b4 : w4.cell? ⟨w.heap.size, 4, none⟩ = some (.string d.col) := Y0.cell 4 (by simp)
  have b5 : w4.cell? ⟨w.heap.size, 5, none⟩ = some (.int .i64 d.wd) := Y0.cell 5 (by simp)
  have b6 : w4.cell? ⟨w.heap.size, 6, none⟩ = some (.int .i64 d.lay) := Y0.cell 6 (by simp)
  have r0 : w4.cell? ⟨w.heap.size + 1, 0, none⟩ = some (.int .i64 0) := Y1.cell 0 (by simp)
  have r1 : w4.cell? ⟨w.heap.size + 1, 1, none⟩ = some (.int .i64 0) := Y1.cell 1 (by simp)
  have r2 : w4.cell? ⟨w.heap.size + 1, 2, none⟩ = some (.slice none 0 0) := Y1.cell 2 (by simp)
  have r3 : w4.cell? ⟨w.heap.size + 1, 3, none⟩ = some (.bool false) := Y1.cell 3 (by simp)
  have r4 : w4.cell? ⟨w.heap.size + 1, 4, none⟩ = some (.string ⟨#[]⟩) := Y1.cell 4 (by simp)
  have r5 : w4.cell? ⟨w.heap.size + 1, 5, none⟩ = some (.int .i64 0) := Y1.cell 5 (by simp)
  have r6 : w4.cell? ⟨w.heap.size + 1, 6, none⟩ = some (.int .i64 0) := Y1.cell 6 (by simp)
  have p := Y0.free
  have q := Y1.free
  have hN0 : w.heap.size ∉ bs' := fun h => by have := (HM.new _ h).1; omega
  have hN1 : w.heap.size + 1 ∉ bs' := fun h => by have := (HM.new _ h).1; omega
  obtain ⟨F, HFW⟩ : ∃ F, Hid (F = setRow (w4.setCell ⟨w.heap.size, 2, none⟩ (.slice a' n c')) (w.heap.size + 1) 0 [.int .i64 d.low, .int .i64 d.high, .slice a' n c', .bool d.hide, .string d.col, .int .i64 d.wd, .int .i64 d.lay]) := ⟨_, (rfl : setRow (w4.setCell ⟨w.heap.size, 2, none⟩ (.slice a' n c')) (w.heap.size + 1) 0 [.int .i64 d.low, .int .i64 d.high, .slice a' n c', .bool d.hide, .string d.col, .int .i64 d.wd, .int .i64 d.lay] = _)⟩
  have hAl : Alike w4 F bs' := by rw [HFW.out]; exact ((((((((Alike.refl (HS.lt testE)).set hN0 2 _).set hN1 0 _).set hN1 1 _).set hN1 2 _).set hN1 3 _).set hN1 4 _).set hN1 5 _).set hN1 6 _
  have HT : Hid (Tests F a' d.tests bs') := HS.alike testE hAl
  have HF : Hid (Fresh W0 F bs') := (HM.alike hAl).fresh (Nat.le_trans h0W.out.size (by omega))
  have hB : Hid (Bel w F) := by rw [HFW.out]; exact setRow_bel (bel_set (bel_step hBL hB4) (Nat.le_refl _) _) (Nat.le_succ _) _ _
  clear hgrow HS HM hAl X0 X1 Y0 Y1 hT3 hown0 hB4 hBL hsL
  go_wp2
  exact bodyPost_ret (v := rulV d a' n c') (by simp [results, Try.results111, go_sem, r0, r1, r2, r3, r4, r5, r6]) rfl ⟨_, _, bs', rfl, by rw [HFW.out] at HT; exact HT.out, by rw [HFW.out] at HF; exact HF.out, by rw [HFW.out] at hB; exact hB.out⟩

set_option maxRecDepth 100000 in
set_option maxHeartbeats 4000000 in
theorem specPaint_any (a : Option Addr) (n c : Nat) (rs : List RuleD) (bs : List Nat) (at_ : Option Addr) (nt ct : Nat) (ts : List TagD) (bt : List Nat) (z : Int) (w : World) (hR : Rules w a rs bs) (hn : rs.length = n) (hm : n ≤ 1048576) (hs : ∀ i (h : i < rs.length), rs[i].tests.length ≤ 1048576) (hT : Tags w at_ ts bt) (hnt : ts.length = nt) (hmt : nt ≤ 1048576) :
    Calls Try.prog 51 #[.slice a n c, .slice at_ nt ct, .int .i64 z] w fun e w' => PaintTail (pntR rs ts z) (pntB rs ts z) w e w' := by
  have Hn : Hid (rs.length = n) := hn
  have HS : Hid (∀ i (h : i < rs.length), rs[i].tests.length ≤ 1048576) := hs
  obtain ⟨W, HW⟩ : ∃ W, Hid (W = w.alloc (.cells #[.int .i64 0, .int .i64 0, .slice none 0 0, .bool false, .string ⟨#[]⟩, .int .i64 0, .int .i64 0] 68)) := ⟨_, (rfl : w.alloc (.cells #[.int .i64 0, .int .i64 0, .slice none 0 0, .bool false, .string ⟨#[]⟩, .int .i64 0, .int .i64 0] 68) = _)⟩
  have hBW : Bel w W := by rw [HW.out]; exact bel_alloc (Bel.refl _) _
  have XW : Blk W w.heap.size [.int .i64 0, .int .i64 0, .slice none 0 0, .bool false, .string ⟨#[]⟩, .int .i64 0, .int .i64 0] := by rw [HW.out]; exact Blk.new w [.int .i64 0, .int .i64 0, .slice none 0 0, .bool false, .string ⟨#[]⟩, .int .i64 0, .int .i64 0] _
  have HZ : Hid (∀ V : World, Bel W V → pntQ rs ts z = none → PaintTail (pntR rs ts z) (pntB rs ts z) w (.returned (.tuple #[rul0, .bool false])) (setRow V w.heap.size 0 [.int .i64 0, .int .i64 0, .slice none 0 0, .bool false, .string ⟨#[]⟩, .int .i64 0, .int .i64 0])) := fun V hV e => by
    rw [(pntR_none e).1, (pntR_none e).2]
    exact ⟨none, 0, [], rfl, Sl.nil, Fresh.nil _ _, setRow_bel (bel_step hBW hV) (Nat.le_refl _) _ _⟩
  clear hn hs
  by_cases h1 : n ≤ 100
  · have hpl : plR rs = rs := by unfold plR; rw [if_pos (by rw [Hn.out]; exact h1)]
    have HQ : Hid (pntQ rs ts z = pntI rs ts z n) := by unfold pntQ; rw [hpl, Hn.out]; exact rfl
    clear hpl
    have hRW := hR.bel ruleE hBW
    have hTW := hT.bel tagE hBW
    clear hR hT
    go_enter Try.func51, Try.ntmps51
    go_wp2
    rw [← HW.out]
    go_loopw [8] (fun i wr => ∃ k : Nat, k ≤ n ∧ i = .int .i64 ((k : Int) - 1) ∧ (∀ j (h : j < rs.length), k ≤ j → appB rs[j] ts z = false) ∧ Bel W wr) (fun i _ => (intOf i + 1).toNat)
    case atStart => exact ⟨n, Nat.le_refl _, rfl, fun j h hj => by rw [Hn.out] at h; omega, Bel.refl _⟩
    case round =>
      obtain ⟨k1, hk, rfl, hall, hbel⟩ := hrel
      have H : Hid (∀ j (h : j < rs.length), k1 ≤ j → appB rs[j] ts z = false) := hall
      clear hall
      have Xr := XW.bel hbel
      have x0 : wr.cell? ⟨w.heap.size, 0, none⟩ = some (.int .i64 0) := Xr.cell 0 (by simp)
      have x1 : wr.cell? ⟨w.heap.size, 1, none⟩ = some (.int .i64 0) := Xr.cell 1 (by simp)
      have x2 : wr.cell? ⟨w.heap.size, 2, none⟩ = some (.slice none 0 0) := Xr.cell 2 (by simp)
      have x3 : wr.cell? ⟨w.heap.size, 3, none⟩ = some (.bool false) := Xr.cell 3 (by simp)
      have x4 : wr.cell? ⟨w.heap.size, 4, none⟩ = some (.string ⟨#[]⟩) := Xr.cell 4 (by simp)
      have x5 : wr.cell? ⟨w.heap.size, 5, none⟩ = some (.int .i64 0) := Xr.cell 5 (by simp)
      have x6 : wr.cell? ⟨w.heap.size, 6, none⟩ = some (.int .i64 0) := Xr.cell 6 (by simp)
      have xf := Xr.free
      have xl := Xr.lt
      rcases k1 with _ | k
      · have HE := HZ.out wr hbel (by rw [HQ.out]; exact pntI_none n fun j hj _ => H.out j hj (Nat.zero_le _))
        have HE : Hid (PaintTail (pntR rs ts z) (pntB rs ts z) w (.returned (.tuple #[rul0, .bool false])) (setRow wr w.heap.size 0 [.int .i64 0, .int .i64 0, .slice none 0 0, .bool false, .string ⟨#[]⟩, .int .i64 0, .int .i64 0])) := HE
        have hz : ((0 : Nat) : Int) - 1 = -1 := rfl
        rw [hz]
        clear Xr
        go_wp2
        exact bodyPost_ret (v := .tuple #[rul0, .bool false]) (by simp [results, Try.results51, go_sem, x0, x1, x2, x3, x4, x5, x6]) rfl HE.out
      · have hz : ((k + 1 : Nat) : Int) - 1 = (k : Int) := by omega
        rw [hz]
        clear hz
        have hkl : k < rs.length := by rw [Hn.out]; omega
        have hlt' : (k : Int) < (n : Int) := by omega
        have hk0 : ¬ ((k : Int) < 0) := by omega
        obtain ⟨b, off, f, rfl, hb, hx⟩ := (hRW.bel ruleE hbel).out hkl
        obtain ⟨_, _, _, _, _, c0, c1, c3, c4, c5, c6, a2, k2, _, c2, t2⟩ := hx k hkl
        have hts := HS.out k hkl
        obtain ⟨d, Hd⟩ : ∃ d, Hid (rs[k] = d) := ⟨_, (rfl : rs[k] = _)⟩
        rw [Hd.out] at c0 c1 c2 c3 c4 c5 c6 t2 hts
        obtain ⟨q, Hq⟩ : ∃ q, Hid (appB d ts z = q) := ⟨_, (rfl : appB d ts z = _)⟩
        have cA := specApplies_any d a2 d.tests.length k2 (f k) at_ nt ct ts bt z wr t2 rfl hts (hTW.bel tagE hbel) hnt hmt
        rw [Hq.out] at cA
        have hR : ∀ w', Bel wr w' → (w'.cell? ⟨b, off + k * 7, none⟩ = some (.int .i64 d.low) ∧ w'.cell? ⟨b, off + k * 7 + 1, none⟩ = some (.int .i64 d.high) ∧ w'.cell? ⟨b, off + k * 7 + 2, none⟩ = some (.slice a2 d.tests.length k2) ∧ w'.cell? ⟨b, off + k * 7 + 3, none⟩ = some (.bool d.hide) ∧ w'.cell? ⟨b, off + k * 7 + 4, none⟩ = some (.string d.col) ∧ w'.cell? ⟨b, off + k * 7 + 5, none⟩ = some (.int .i64 d.wd) ∧ w'.cell? ⟨b, off + k * 7 + 6, none⟩ = some (.int .i64 d.lay)) ∧ w'.cell? ⟨w.heap.size, 0, none⟩ = some (.int .i64 0) ∧ w'.cell? ⟨w.heap.size, 1, none⟩ = some (.int .i64 0) ∧ w'.cell? ⟨w.heap.size, 2, none⟩ = some (.slice none 0 0) ∧ w'.cell? ⟨w.heap.size, 3, none⟩ = some (.bool false) ∧ w'.cell? ⟨w.heap.size, 4, none⟩ = some (.string ⟨#[]⟩) ∧ w'.cell? ⟨w.heap.size, 5, none⟩ = some (.int .i64 0) ∧ w'.cell? ⟨w.heap.size, 6, none⟩ = some (.int .i64 0) := fun w' h => ⟨⟨bel_cellM h hb c0, bel_cellM h hb c1, bel_cellM h hb c2, bel_cellM h hb c3, bel_cellM h hb c4, bel_cellM h hb c5, bel_cellM h hb c6⟩, (Xr.bel h).cell 0 (by simp), (Xr.bel h).cell 1 (by simp), (Xr.bel h).cell 2 (by simp), (Xr.bel h).cell 3 (by simp), (Xr.bel h).cell 4 (by simp), (Xr.bel h).cell 5 (by simp), (Xr.bel h).cell 6 (by simp)⟩
        clear hx
        go_wp2_with fail
        refine cA.mono ?_
        rintro e w1 ⟨rfl, hb1⟩
        have hB1 := bel_step hbel hb1
        obtain ⟨⟨e0, e1, e2, e3, e4, e5, e6⟩, z0, z1, z2, z3, z4, z5, z6⟩ := hR w1 hb1
        have zf := (Xr.bel hb1).free
        have zl := (Xr.bel hb1).lt
        have t21 := t2.bel testE hb1
        clear c0 c1 c2 c3 c4 c5 c6 x0 x1 x2 x3 x4 x5 x6 xf xl cA hR t2
        cases q
        · have HN : Hid (∀ j (h : j < rs.length), k ≤ j → appB rs[j] ts z = false) := fun j h hj => by
            by_cases e : j = k
            · subst e; rw [Hd.out]; exact Hq.out
            · exact H.out j h (by omega)
          clear Xr t21
          go_wp2
          go_roundw
          case rel => exact ⟨k, by omega, by go_num, HN.out, hB1⟩
          case measure => simp [intOf]
        · have HP : Hid (pntQ rs ts z = if rs[k].hide = true then none else some k) := by
            rw [HQ.out]
            exact pntI_at hkl (by rw [Hd.out]; exact Hq.out) n (by omega) (by rw [Hn.out]; exact Nat.le_refl _) fun j hj h1 _ => H.out j hj (by omega)
          rw [Hd.out] at HP
          cases hh : d.hide
          · have HS1 : Hid (pntR rs ts z = d ∧ pntB rs ts z = true) := by
              have := pntR_some hkl (by rw [HP.out, if_neg (by rw [hh]; decide)])
              rw [Hd.out] at this; exact this
            rw [hh] at e3
            have cC := l7Copy_any d a2 d.tests.length k2 (f k) w1 w1 (Bel.refl _) t21 rfl hts
            unfold rulV at cC
            rw [hh] at cC
            go_wp2_with fail
            refine cC.mono ?_
            rintro e w2 ⟨a3, k3, bs3, rfl, t3, F3, hb2⟩
            have hB2 := bel_step hB1 hb2
            have X2 := (Xr.bel hb1).bel hb2
            have y0 : w2.cell? ⟨w.heap.size, 0, none⟩ = some (.int .i64 0) := X2.cell 0 (by simp)
            have y1 : w2.cell? ⟨w.heap.size, 1, none⟩ = some (.int .i64 0) := X2.cell 1 (by simp)
            have y2 : w2.cell? ⟨w.heap.size, 2, none⟩ = some (.slice none 0 0) := X2.cell 2 (by simp)
            have y3 : w2.cell? ⟨w.heap.size, 3, none⟩ = some (.bool false) := X2.cell 3 (by simp)
            have y4 : w2.cell? ⟨w.heap.size, 4, none⟩ = some (.string ⟨#[]⟩) := X2.cell 4 (by simp)
            have y5 : w2.cell? ⟨w.heap.size, 5, none⟩ = some (.int .i64 0) := X2.cell 5 (by simp)
            have y6 : w2.cell? ⟨w.heap.size, 6, none⟩ = some (.int .i64 0) := X2.cell 6 (by simp)
            have yf := X2.free
            have yl := X2.lt
            have n0 : w.heap.size ∉ bs3 := fun h => by have := (F3.new _ h).1; omega
            have HE : Hid (PaintTail d true w (.returned (.tuple #[rulV d a3 d.tests.length k3, .bool true])) (setRow w2 w.heap.size 0 [.int .i64 d.low, .int .i64 d.high, .slice a3 d.tests.length k3, .bool d.hide, .string d.col, .int .i64 d.wd, .int .i64 d.lay])) := by
              have hA : Alike w2 (setRow w2 w.heap.size 0 [.int .i64 d.low, .int .i64 d.high, .slice a3 d.tests.length k3, .bool d.hide, .string d.col, .int .i64 d.wd, .int .i64 d.lay]) bs3 :=
                ((((((((Alike.refl (t3.lt testE)).set n0 0 (.int .i64 d.low)).set n0 1 (.int .i64 d.high)).set n0 2 (.slice a3 d.tests.length k3)).set n0 3 (.bool d.hide)).set n0 4 (.string d.col)).set n0 5 (.int .i64 d.wd)).set n0 6 (.int .i64 d.lay))
              have F3' : Fresh w w2 bs3 := F3.old (bel_step hBW hB1).out.size
              exact ⟨a3, k3, bs3, rfl, t3.alike testE hA, ⟨F3'.nd, fun b hb => ⟨(F3'.new b hb).1, (hA b hb).1⟩, fun b hb j => by rw [(hA b hb).2.2 j]; exact F3'.free b hb j⟩, setRow_bel (bel_step hBW hB2) (Nat.le_refl _) _ _⟩
            unfold rulV at HE
            rw [hh] at HE
            have HE2 : Hid (PaintTail d true w (.returned (.tuple #[.agg #[.int .i64 d.low, .int .i64 d.high, .slice a3 d.tests.length k3, .bool false, .string d.col, .int .i64 d.wd, .int .i64 d.lay], .bool true])) (setRow w2 w.heap.size 0 [.int .i64 d.low, .int .i64 d.high, .slice a3 d.tests.length k3, .bool false, .string d.col, .int .i64 d.wd, .int .i64 d.lay])) := HE
            clear F3 t3 X2 Xr t21 HE e0 e1 e2 e3 e4 e5 e6 z0 z1 z2 z3 z4 z5 z6 zf zl hb1 hb2 n0 cC
            go_wp2
            refine bodyPost_ret (v := .tuple #[.agg #[.int .i64 d.low, .int .i64 d.high, .slice a3 d.tests.length k3, .bool false, .string d.col, .int .i64 d.wd, .int .i64 d.lay], .bool true]) (by simp [results, Try.results51, go_sem, y0, y1, y2, y3, y4, y5, y6]) rfl ?_
            rw [HS1.out.1, HS1.out.2]
            exact HE2.out
          · have HE : Hid (PaintTail (pntR rs ts z) (pntB rs ts z) w (.returned (.tuple #[rul0, .bool false])) (setRow w1 w.heap.size 0 [.int .i64 0, .int .i64 0, .slice none 0 0, .bool false, .string ⟨#[]⟩, .int .i64 0, .int .i64 0])) := HZ.out w1 hB1 (by rw [HP.out, if_pos hh])
            rw [hh] at e3
            clear Xr t21
            go_wp2
            exact bodyPost_ret (v := .tuple #[rul0, .bool false]) (by simp [results, Try.results51, go_sem, z0, z1, z2, z3, z4, z5, z6]) rfl HE.out
  · have e : pntQ rs ts z = none := by unfold pntQ plR; rw [if_neg (by rw [Hn.out]; exact h1)]; rfl
    have HE : Hid (PaintTail (pntR rs ts z) (pntB rs ts z) w (.returned (.tuple #[rul0, .bool false])) W) := by
      rw [(pntR_none e).1, (pntR_none e).2]
      exact ⟨none, 0, [], rfl, Sl.nil, Fresh.nil _ _, hBW⟩
    clear hR hT e
    go_enter Try.func51, Try.ntmps51
    go_wp2
    rw [HW.out] at HE
    exact bodyPost_ret (v := .tuple #[rul0, .bool false]) (by simp [results, Try.results51, go_sem]) rfl HE.out
end Go.Proofs.Ytbebgfhblalghaa
