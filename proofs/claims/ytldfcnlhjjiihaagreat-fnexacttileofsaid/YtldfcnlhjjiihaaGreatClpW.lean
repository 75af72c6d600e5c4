/-
  The pieces of a clipped row: the model's contract.
-/
import Derived.Test.YtldfcnlhjjiihaaGreatClpX
import Derived.Test.YtldfcnlhjjiihaaGreatClpV
import Derived.Test.YtldfcnlhjjiihaaGreatCC
import Derived.Test.YtldfcnlhjjiihaaGreatKB
import Derived.Deep.DeepCutAuto
import Derived.Deep.RegionLaw
namespace Go.Proofs.YtldfcnlhjjiihaaGreat
open Go.RowKit Go.Maps

theorem own_anyW {w : World} {base : Nat} {e : TypeId} {q : Nat} {v : Value} {n : Nat} {xs : List Value} (h : w.ownsRow base e q v n xs) : ∃ a c, v = .slice a n c ∧ n ≤ c := by
 rcases h.2 with ⟨h1, h0⟩ | ⟨g, cap, cur, h1, h2⟩
 ·exact ⟨none, 0, by rw [h1, h0], by omega⟩
 ·exact ⟨_, cap, h1, by omega⟩
theorem own_someW {w : World} {base : Nat} {e : TypeId} {q : Nat} {v : Value} {n : Nat} {xs : List Value} (h : w.ownsRow base e q v n xs) (hn : 0 < n) : ∃ g cap, v = .slice (some ⟨g, 0, none⟩) n cap := by
 obtain ⟨g, cap, h1, _⟩ := h.form hn
 exact ⟨g, cap, h1⟩
theorem infoPr : (Tryz.prog.info? 54).map (fun i => (i.zero, i.size, i.bytes)) = some (some (.slice none 0 0), 1, 24) := by kernel_rfl
/-- What the model tells. -/
structure ClpM (w' : World) (L : List (List PtD)) (v : Value) : Prop where
 out : ∃ lo G C, RwM lo w' v L G C
/-- The state of the loop. -/
structure CM (W : World) (q : BoxD) (X Y : Nat → Int) (k : Nat) (v op : Value) (V : World) : Prop where
 out : ∃ G C, op = .bool (clpQ q X Y k).2 ∧ RwM W.heap.size V v (clpQ q X Y k).1 G C ∧ Bel W V
/-- The stretch's two ends lie in two blocks that are new. -/
structure CutW (q : BoxD) (X Y : Nat → Int) (k : Nat) (wr : World) (pf p_t ok : Value) (wx : World) : Prop where
 out : ∃ F T px py qx qy c, pf = .pointer (some ⟨F, 0, none⟩) ∧ p_t = .pointer (some ⟨T, 0, none⟩) ∧ ok = .bool c ∧ Blk wx F [.int .i64 px, .int .i64 py] ∧ Blk wx T [.int .i64 qx, .int .i64 qy] ∧
  (strC q (X k) (Y k) (X (k + 1)) (Y (k + 1)) = if c then some ⟨px, py, qx, qy⟩ else none) ∧ wr.heap.size ≤ F ∧ wr.heap.size ≤ T ∧ Bel wr wx

set_option maxRecDepth 100000 in
set_option maxHeartbeats 8000000 in
theorem l6Clip_low (a : Option Addr) (n c : Nat) (X Y : Nat → Int) (q : BoxD) (w : World) (hP : Pts w a n X Y) (hn2 : n ≤ 2000) (hPO : ∀ i, i < n → POk (X i) (Y i)) (hqx : q.a ≤ q.c) (hqy : q.b ≤ q.d) (h6 : Box64 q) :
  Calls Tryz.prog 19 #[.slice a n c, bxv q] w fun e w' => ∃ v lo G C, e = .returned v ∧ w.heap.size ≤ lo ∧ RwM lo w' v (clpQ q X Y (n - 1)).1 G C ∧ Bel w w' := by
 have HJ : Hid (∀ k, ClpJ (clpQ q X Y k).1 (clpQ q X Y k).2 k) := fun k => clpJ hqx hqy h6 k
 have HPO : Hid (∀ i, i < n → POk (X i) (Y i)) := hPO
 obtain ⟨i0, hi0, hz0, hz1, hz2⟩ := info_parts infoPr
 obtain ⟨i1, hi1, hy0, hy1, hy2⟩ := info_parts infoPq
 clear hPO
 obtain ⟨W, HW⟩ : ∃ W, Hid (W = w.alloc (.cells #[.int .i64 q.a, .int .i64 q.b, .int .i64 q.c, .int .i64 q.d] 63)) := ⟨_, (rfl : w.alloc (.cells #[.int .i64 q.a, .int .i64 q.b, .int .i64 q.c, .int .i64 q.d] 63) = _)⟩
 have hBW : Bel w W := by rw [HW.out]; exact bel_alloc (Bel.refl _) _
 have XB : Blk W w.heap.size [.int .i64 q.a, .int .i64 q.b, .int .i64 q.c, .int .i64 q.d] := by rw [HW.out]; exact Blk.new w [.int .i64 q.a, .int .i64 q.b, .int .i64 q.c, .int .i64 q.d] _
 have hPW := hP.bel hBW
 have HI0 : Hid (CM W q X Y 0 (.slice (some ⟨W.heap.size, 0, none⟩) 0 0) (.bool false) (W.alloc (.cells #[] 54))) := ⟨⟨_, _, rfl, RwM.nil _ W (Nat.le_refl _), bel_alloc (Bel.refl _) _⟩⟩
 clear hP
 go_enter Tryz.func19, Tryz.ntmps19
 go_upto_region 1 with fail
 rw [← HW.out]
 go_wp2_with fail
 go_loopw [5, 6, 7, 8, 9, 10, 11] (fun v op i _ _ _ _ wr => ∃ k : Nat, i = .int .i64 ((k : Int) + 1) ∧ (k + 1 ≤ n ∨ k = 0) ∧ CM W q X Y k v op wr) (fun _ _ i _ _ _ _ _ => n - (intOf i).toNat)
 case atStart => exact ⟨0, rfl, .inr rfl, HI0.out⟩
 case round =>
  obtain ⟨k, rfl, hk, hI⟩ := hrel
  obtain ⟨v, rfl⟩ : ∃ x, x = u5 := ⟨_, rfl⟩
  obtain ⟨G, C, rfl, hR, hbr⟩ := hI.out
  have hj := HJ.out k
  have HK : Hid (clpQ q X Y (k + 1) = match strC q (X k) (Y k) (X (k + 1)) (Y (k + 1)) with | none => ((clpQ q X Y k).1, false) | some t => (addC (clpQ q X Y k).1 (clpQ q X Y k).2 ⟨t.px, t.py⟩ ⟨t.qx, t.qy⟩, true)) := (rfl : clpQ q X Y (k + 1) = _)
  by_cases hlt : k + 1 < n
  ·obtain ⟨L, HLL⟩ : ∃ L, Hid ((clpQ q X Y k).1 = L) := ⟨_, (rfl : (clpQ q X Y k).1 = _)⟩
   obtain ⟨op, Hop⟩ : ∃ o, Hid ((clpQ q X Y k).2 = o) := ⟨_, (rfl : (clpQ q X Y k).2 = _)⟩
   have HK2 : Hid (clpQ q X Y (k + 1) = match strC q (X k) (Y k) (X (k + 1)) (Y (k + 1)) with | none => (L, false) | some t => (addC L op ⟨t.px, t.py⟩ ⟨t.qx, t.qy⟩, true)) := by rw [← HLL.out, ← Hop.out]; exact HK.out
   rw [HLL.out, Hop.out] at hj
   rw [HLL.out] at hR
   rw [Hop.out]
   obtain ⟨m, Hm⟩ : ∃ m, Hid (L.length = m) := ⟨_, (rfl : L.length = _)⟩
   obtain ⟨va, vc, rfl, hmc⟩ := own_anyW hR.own
   rw [Hm.out] at hR hmc ⊢
   have hm2 : m ≤ 2000 := by have := hj.len; rw [Hm.out] at this; omega
   have hlt' : (k : Int) + 1 < (n : Int) := by omega
   have hPr := hPW.bel hbr
   rcases hPr with h0 | ⟨b, off, rfl, hbl, hx⟩
   ·omega
   obtain ⟨c0, c1⟩ := hx k (by omega)
   obtain ⟨c2, c3⟩ := hx (k + 1) hlt
   have XBr := XB.bel hbr
   clear hx hI HK HI0
   go_upto_region 6 with fail
   go_cut [8, 9, 10] (fun pf p_t ok wx => CutW q X Y k wr pf p_t ok wx)
   case first =>
    have hk0 : IntKind.i64.wrap (k : Int) = k := by rw [IntKind.wrap_i64]; omega
    have hkn : (k : Int) < (n : Int) := by omega
    have hk1p : (0 : Int) ≤ (k : Int) + 1 := by omega
    have hk00 : (0 : Int) ≤ (k : Int) := by omega
    have g0 : Bel wr wr := Bel.refl _
    have cP := fun w' => l6Stretch_any q (X k) (Y k) (X (k + 1)) (Y (k + 1)) w' (HPO.out k (by omega)) (HPO.out (k + 1) hlt) hqx hqy
    have hRR : ∀ w', Bel wr w' → w'.cell? ⟨w.heap.size, 0, none⟩ = some (.int .i64 q.a) ∧ w'.cell? ⟨w.heap.size, 1, none⟩ = some (.int .i64 q.b) ∧ w'.cell? ⟨w.heap.size, 2, none⟩ = some (.int .i64 q.c) ∧ w'.cell? ⟨w.heap.size, 3, none⟩ = some (.int .i64 q.d) ∧ w'.cell? ⟨b, off + k * 2, none⟩ = some (.int .i64 (X k)) ∧ w'.cell? ⟨b, off + k * 2 + 1, none⟩ = some (.int .i64 (Y k)) ∧ w'.cell? ⟨b, off + (k + 1) * 2, none⟩ = some (.int .i64 (X (k + 1))) ∧ w'.cell? ⟨b, off + (k + 1) * 2 + 1, none⟩ = some (.int .i64 (Y (k + 1))) := fun w' h =>
     ⟨(XBr.bel h).cell 0 (by simp), (XBr.bel h).cell 1 (by simp), (XBr.bel h).cell 2 (by simp), (XBr.bel h).cell 3 (by simp), bel_cellM h hbl c0, bel_cellM h hbl c1, bel_cellM h hbl c2, bel_cellM h hbl c3⟩
    clear XBr c0 c1 c2 c3
    refine wp_region_noPanic ?_
    refine wp_region_held_drew (S := fun w' => Bel wr w') (by kernel_rfl) (Bel.drew g0) (fun hHeld => ?_)
    refine tk 0 hHeld ?_; refine tk 1 hHeld ?_; refine tk 2 hHeld ?_; refine tk 3 hHeld ?_; refine tk 4 hHeld ?_
    refine tk 5 hHeld ?_; refine tk 6 hHeld ?_; refine tk 7 hHeld ?_; refine tk 8 hHeld ?_; refine tk 9 hHeld ?_
    refine rd3 10 15 16 (fun K hK => ?_) (fun K hK => ?_) (fun K hK => ?_)
    ·skip
     go_simp
     refine (cP _).mono ?_
     rintro e w9 ⟨px, py, qx, qy, ok, rfl, hst, hb9⟩
     have h9l : wr.heap.size ≤ w9.heap.size := (bel_step hHeld hb9).out.size
     go_wp2_with fail
     refine hK.out _ _ (bel_step hHeld hb9) ?_; clear hK K hHeld; intro hHeld
     try simp only [Act.put, List.setIfInBounds_toArray, List.set_cons_zero, List.set_cons_succ]
     refine tk 11 hHeld ?_; refine tk 12 hHeld ?_; refine tk 13 hHeld ?_; refine tk 14 hHeld ?_
     refine rd2 15 16 (fun K hK => ?_) (fun K hK => ?_)
     ·skip
      go_simp
      refine hK.out _ _ (bel_alloc hHeld _) ?_; clear hK K hHeld; intro hHeld
      try simp only [Act.put, List.setIfInBounds_toArray, List.set_cons_zero, List.set_cons_succ]
      refine rd1 16 (fun K hK => ?_)
      go_simp
      refine hK.out _ _ (bel_alloc hHeld _) ?_; clear hK K hHeld; intro hHeld
      try simp only [Act.put, List.setIfInBounds_toArray, List.set_cons_zero, List.set_cons_succ]
      obtain ⟨U, HU⟩ : ∃ U, Hid (U = (w9.alloc (.cells #[.int .i64 0, .int .i64 0] 61)).alloc (.cells #[.int .i64 0, .int .i64 0] 61)) := ⟨_, (rfl : (w9.alloc (.cells #[.int .i64 0, .int .i64 0] 61)).alloc (.cells #[.int .i64 0, .int .i64 0] 61) = _)⟩
      have XF : Blk U (w9.heap.size) [.int .i64 0, .int .i64 0] := by rw [HU.out]; exact (Blk.new w9 [.int .i64 0, .int .i64 0] _).bel (bel_alloc (Bel.refl _) _)
      have XT : Blk U (w9.heap.size + 1) [.int .i64 0, .int .i64 0] := by rw [HU.out]; exact Blk.new1 w9 _ [.int .i64 0, .int .i64 0] _
      have hHU : Bel wr U := by rw [HU.out]; exact hHeld
      have hne : w9.heap.size ≠ w9.heap.size + 1 := by omega
      rw [← HU.out]
      clear hHeld
      have hHeld := hHU
      obtain ⟨F, HF⟩ : ∃ F, Hid (w9.heap.size = F) := ⟨_, (rfl : w9.heap.size = _)⟩
      obtain ⟨T, HT⟩ : ∃ T, Hid (w9.heap.size + 1 = T) := ⟨_, (rfl : w9.heap.size + 1 = _)⟩
      have hFl : wr.heap.size ≤ F := by rw [← HF.out]; exact h9l
      have hTl : wr.heap.size ≤ T := by rw [← HT.out]; omega
      rw [HT.out] at hne XT ⊢
      rw [HF.out] at hne XF ⊢
      have u0 : U.cell? ⟨F, 0, none⟩ = some (.int .i64 0) := XF.cell 0 (by simp)
      have u1 : U.cell? ⟨F, 1, none⟩ = some (.int .i64 0) := XF.cell 1 (by simp)
      have v0 : U.cell? ⟨T, 0, none⟩ = some (.int .i64 0) := XT.cell 0 (by simp)
      have v1 : U.cell? ⟨T, 1, none⟩ = some (.int .i64 0) := XT.cell 1 (by simp)
      have fF := XF.free
      have fT := XT.free
      have lF := XF.lt
      have lT := XT.lt
      have hne' : T ≠ F := fun e => hne e.symm
      have YF : Hid (Blk ((((U.setCell ⟨F, 0, none⟩ (.int .i64 px)).setCell ⟨F, 1, none⟩ (.int .i64 py)).setCell ⟨T, 0, none⟩ (.int .i64 qx)).setCell ⟨T, 1, none⟩ (.int .i64 qy)) F [.int .i64 px, .int .i64 py]) := (((XF.set 0 _ (by simp)).set 1 _ (by simp)).far hne').far hne'
      have YT : Hid (Blk ((((U.setCell ⟨F, 0, none⟩ (.int .i64 px)).setCell ⟨F, 1, none⟩ (.int .i64 py)).setCell ⟨T, 0, none⟩ (.int .i64 qx)).setCell ⟨T, 1, none⟩ (.int .i64 qy)) T [.int .i64 qx, .int .i64 qy]) := (((XT.far hne).far hne).set 0 _ (by simp)).set 1 _ (by simp)
      clear XF XT
      refine rd1 17 (fun K hK => ?_)
      go_simp
      refine hK.out _ _ (bel_set (bel_set hHeld (by show wr.heap.size ≤ F; exact hFl) _) (by show wr.heap.size ≤ F; exact hFl) _) ?_; clear hK K hHeld; intro hHeld
      try simp only [Act.put, List.setIfInBounds_toArray, List.set_cons_zero, List.set_cons_succ]
      refine rd1 18 (fun K hK => ?_)
      go_simp
      refine hK.out _ _ (bel_set (bel_set hHeld (by show wr.heap.size ≤ T; exact hTl) _) (by show wr.heap.size ≤ T; exact hTl) _) ?_; clear hK K hHeld; intro hHeld
      try simp only [Act.put, List.setIfInBounds_toArray, List.set_cons_zero, List.set_cons_succ]
      refine tk 19 hHeld ?_
      refine wpAnyH_done (by kernel_rfl) ?_ _
      refine NoPanic.normal ?_
      clear u0 u1 v0 v1 fF fT hHU
      go_wp2_with fail
      go_meet
      case rel => exact ⟨⟨F, T, px, py, qx, qy, ok, rfl, rfl, rfl, YF.out, YT.out, hst, hFl, hTl, hHeld⟩⟩
     ·skip
      go_simp
      refine hK.out _ _ (bel_alloc hHeld _) ?_; clear hK K hHeld; intro hHeld
      try simp only [Act.put, List.setIfInBounds_toArray, List.set_cons_zero, List.set_cons_succ]
      refine rd1 15 (fun K hK => ?_)
      go_simp
      refine hK.out _ _ (bel_alloc hHeld _) ?_; clear hK K hHeld; intro hHeld
      try simp only [Act.put, List.setIfInBounds_toArray, List.set_cons_zero, List.set_cons_succ]
      obtain ⟨U, HU⟩ : ∃ U, Hid (U = (w9.alloc (.cells #[.int .i64 0, .int .i64 0] 61)).alloc (.cells #[.int .i64 0, .int .i64 0] 61)) := ⟨_, (rfl : (w9.alloc (.cells #[.int .i64 0, .int .i64 0] 61)).alloc (.cells #[.int .i64 0, .int .i64 0] 61) = _)⟩
      have XF : Blk U (w9.heap.size + 1) [.int .i64 0, .int .i64 0] := by rw [HU.out]; exact Blk.new1 w9 _ [.int .i64 0, .int .i64 0] _
      have XT : Blk U (w9.heap.size) [.int .i64 0, .int .i64 0] := by rw [HU.out]; exact (Blk.new w9 [.int .i64 0, .int .i64 0] _).bel (bel_alloc (Bel.refl _) _)
      have hHU : Bel wr U := by rw [HU.out]; exact hHeld
      have hne : w9.heap.size + 1 ≠ w9.heap.size := by omega
      rw [← HU.out]
      clear hHeld
      have hHeld := hHU
      obtain ⟨F, HF⟩ : ∃ F, Hid (w9.heap.size + 1 = F) := ⟨_, (rfl : w9.heap.size + 1 = _)⟩
      obtain ⟨T, HT⟩ : ∃ T, Hid (w9.heap.size = T) := ⟨_, (rfl : w9.heap.size = _)⟩
      have hFl : wr.heap.size ≤ F := by rw [← HF.out]; omega
      have hTl : wr.heap.size ≤ T := by rw [← HT.out]; exact h9l
      rw [HF.out] at hne XF ⊢
      rw [HT.out] at hne XT ⊢
      have u0 : U.cell? ⟨F, 0, none⟩ = some (.int .i64 0) := XF.cell 0 (by simp)
      have u1 : U.cell? ⟨F, 1, none⟩ = some (.int .i64 0) := XF.cell 1 (by simp)
      have v0 : U.cell? ⟨T, 0, none⟩ = some (.int .i64 0) := XT.cell 0 (by simp)
      have v1 : U.cell? ⟨T, 1, none⟩ = some (.int .i64 0) := XT.cell 1 (by simp)
      have fF := XF.free
      have fT := XT.free
      have lF := XF.lt
      have lT := XT.lt
      have hne' : T ≠ F := fun e => hne e.symm
      have YF : Hid (Blk ((((U.setCell ⟨F, 0, none⟩ (.int .i64 px)).setCell ⟨F, 1, none⟩ (.int .i64 py)).setCell ⟨T, 0, none⟩ (.int .i64 qx)).setCell ⟨T, 1, none⟩ (.int .i64 qy)) F [.int .i64 px, .int .i64 py]) := (((XF.set 0 _ (by simp)).set 1 _ (by simp)).far hne').far hne'
      have YT : Hid (Blk ((((U.setCell ⟨F, 0, none⟩ (.int .i64 px)).setCell ⟨F, 1, none⟩ (.int .i64 py)).setCell ⟨T, 0, none⟩ (.int .i64 qx)).setCell ⟨T, 1, none⟩ (.int .i64 qy)) T [.int .i64 qx, .int .i64 qy]) := (((XT.far hne).far hne).set 0 _ (by simp)).set 1 _ (by simp)
      clear XF XT
      refine rd1 17 (fun K hK => ?_)
      go_simp
      refine hK.out _ _ (bel_set (bel_set hHeld (by show wr.heap.size ≤ F; exact hFl) _) (by show wr.heap.size ≤ F; exact hFl) _) ?_; clear hK K hHeld; intro hHeld
      try simp only [Act.put, List.setIfInBounds_toArray, List.set_cons_zero, List.set_cons_succ]
      refine rd1 18 (fun K hK => ?_)
      go_simp
      refine hK.out _ _ (bel_set (bel_set hHeld (by show wr.heap.size ≤ T; exact hTl) _) (by show wr.heap.size ≤ T; exact hTl) _) ?_; clear hK K hHeld; intro hHeld
      try simp only [Act.put, List.setIfInBounds_toArray, List.set_cons_zero, List.set_cons_succ]
      refine tk 19 hHeld ?_
      refine wpAnyH_done (by kernel_rfl) ?_ _
      refine NoPanic.normal ?_
      clear u0 u1 v0 v1 fF fT hHU
      go_wp2_with fail
      go_meet
      case rel => exact ⟨⟨F, T, px, py, qx, qy, ok, rfl, rfl, rfl, YF.out, YT.out, hst, hFl, hTl, hHeld⟩⟩
    ·skip
     go_simp
     refine hK.out _ _ (bel_alloc hHeld _) ?_; clear hK K hHeld; intro hHeld
     try simp only [Act.put, List.setIfInBounds_toArray, List.set_cons_zero, List.set_cons_succ]
     refine rd2 10 16 (fun K hK => ?_) (fun K hK => ?_)
     ·skip
      go_simp
      refine (cP _).mono ?_
      rintro e w9 ⟨px, py, qx, qy, ok, rfl, hst, hb9⟩
      have h9l : wr.heap.size ≤ w9.heap.size := (bel_step hHeld hb9).out.size
      go_wp2_with fail
      refine hK.out _ _ (bel_step hHeld hb9) ?_; clear hK K hHeld; intro hHeld
      try simp only [Act.put, List.setIfInBounds_toArray, List.set_cons_zero, List.set_cons_succ]
      refine tk 11 hHeld ?_; refine tk 12 hHeld ?_; refine tk 13 hHeld ?_; refine tk 14 hHeld ?_
      refine rd1 16 (fun K hK => ?_)
      go_simp
      refine hK.out _ _ (bel_alloc hHeld _) ?_; clear hK K hHeld; intro hHeld
      try simp only [Act.put, List.setIfInBounds_toArray, List.set_cons_zero, List.set_cons_succ]
      have hb9d : Bel (wr.alloc (.cells #[.int .i64 0, .int .i64 0] 61)) w9 := bel_step (Bel.drew (Bel.refl _)) hb9
      have h9s := hb9d.out.size
      simp only [World.size_alloc] at h9s
      obtain ⟨U, HU⟩ : ∃ U, Hid (U = w9.alloc (.cells #[.int .i64 0, .int .i64 0] 61)) := ⟨_, (rfl : w9.alloc (.cells #[.int .i64 0, .int .i64 0] 61) = _)⟩
      have XF : Blk U (wr.heap.size) [.int .i64 0, .int .i64 0] := by rw [HU.out]; exact ((Blk.new wr [.int .i64 0, .int .i64 0] 61).bel hb9d).bel (bel_alloc (Bel.refl _) _)
      have XT : Blk U (w9.heap.size) [.int .i64 0, .int .i64 0] := by rw [HU.out]; exact Blk.new w9 [.int .i64 0, .int .i64 0] _
      have hHU : Bel wr U := by rw [HU.out]; exact hHeld
      have hne : wr.heap.size ≠ w9.heap.size := by omega
      rw [← HU.out]
      clear hHeld
      have hHeld := hHU
      obtain ⟨F, HF⟩ : ∃ F, Hid (wr.heap.size = F) := ⟨_, (rfl : wr.heap.size = _)⟩
      obtain ⟨T, HT⟩ : ∃ T, Hid (w9.heap.size = T) := ⟨_, (rfl : w9.heap.size = _)⟩
      have hFl : wr.heap.size ≤ F := by rw [← HF.out]; exact Nat.le_refl _
      have hTl : wr.heap.size ≤ T := by rw [← HT.out]; omega
      rw [HF.out] at hne XF ⊢
      rw [HT.out] at hne XT ⊢
      have u0 : U.cell? ⟨F, 0, none⟩ = some (.int .i64 0) := XF.cell 0 (by simp)
      have u1 : U.cell? ⟨F, 1, none⟩ = some (.int .i64 0) := XF.cell 1 (by simp)
      have v0 : U.cell? ⟨T, 0, none⟩ = some (.int .i64 0) := XT.cell 0 (by simp)
      have v1 : U.cell? ⟨T, 1, none⟩ = some (.int .i64 0) := XT.cell 1 (by simp)
      have fF := XF.free
      have fT := XT.free
      have lF := XF.lt
      have lT := XT.lt
      have hne' : T ≠ F := fun e => hne e.symm
      have YF : Hid (Blk ((((U.setCell ⟨F, 0, none⟩ (.int .i64 px)).setCell ⟨F, 1, none⟩ (.int .i64 py)).setCell ⟨T, 0, none⟩ (.int .i64 qx)).setCell ⟨T, 1, none⟩ (.int .i64 qy)) F [.int .i64 px, .int .i64 py]) := (((XF.set 0 _ (by simp)).set 1 _ (by simp)).far hne').far hne'
      have YT : Hid (Blk ((((U.setCell ⟨F, 0, none⟩ (.int .i64 px)).setCell ⟨F, 1, none⟩ (.int .i64 py)).setCell ⟨T, 0, none⟩ (.int .i64 qx)).setCell ⟨T, 1, none⟩ (.int .i64 qy)) T [.int .i64 qx, .int .i64 qy]) := (((XT.far hne).far hne).set 0 _ (by simp)).set 1 _ (by simp)
      clear XF XT
      refine rd1 17 (fun K hK => ?_)
      go_simp
      refine hK.out _ _ (bel_set (bel_set hHeld (by show wr.heap.size ≤ F; exact hFl) _) (by show wr.heap.size ≤ F; exact hFl) _) ?_; clear hK K hHeld; intro hHeld
      try simp only [Act.put, List.setIfInBounds_toArray, List.set_cons_zero, List.set_cons_succ]
      refine rd1 18 (fun K hK => ?_)
      go_simp
      refine hK.out _ _ (bel_set (bel_set hHeld (by show wr.heap.size ≤ T; exact hTl) _) (by show wr.heap.size ≤ T; exact hTl) _) ?_; clear hK K hHeld; intro hHeld
      try simp only [Act.put, List.setIfInBounds_toArray, List.set_cons_zero, List.set_cons_succ]
      refine tk 19 hHeld ?_
      refine wpAnyH_done (by kernel_rfl) ?_ _
      refine NoPanic.normal ?_
      clear u0 u1 v0 v1 fF fT hHU
      go_wp2_with fail
      go_meet
      case rel => exact ⟨⟨F, T, px, py, qx, qy, ok, rfl, rfl, rfl, YF.out, YT.out, hst, hFl, hTl, hHeld⟩⟩
     ·skip
      go_simp
      refine hK.out _ _ (bel_alloc hHeld _) ?_; clear hK K hHeld; intro hHeld
      try simp only [Act.put, List.setIfInBounds_toArray, List.set_cons_zero, List.set_cons_succ]
      refine rd1 10 (fun K hK => ?_)
      go_simp
      refine (cP _).mono ?_
      rintro e w9 ⟨px, py, qx, qy, ok, rfl, hst, hb9⟩
      have h9l : wr.heap.size ≤ w9.heap.size := (bel_step hHeld hb9).out.size
      go_wp2_with fail
      refine hK.out _ _ (bel_step hHeld hb9) ?_; clear hK K hHeld; intro hHeld
      try simp only [Act.put, List.setIfInBounds_toArray, List.set_cons_zero, List.set_cons_succ]
      refine tk 11 hHeld ?_; refine tk 12 hHeld ?_; refine tk 13 hHeld ?_; refine tk 14 hHeld ?_
      have hb9d : Bel ((wr.alloc (.cells #[.int .i64 0, .int .i64 0] 61)).alloc (.cells #[.int .i64 0, .int .i64 0] 61)) w9 := bel_step (Bel.drew (Bel.refl _)) hb9
      obtain ⟨U, HU⟩ : ∃ U, Hid (U = w9) := ⟨_, (rfl : w9 = _)⟩
      have XF : Blk U (wr.heap.size) [.int .i64 0, .int .i64 0] := by rw [HU.out]; exact ((Blk.new wr [.int .i64 0, .int .i64 0] 61).bel (bel_alloc (Bel.refl _) _)).bel hb9d
      have XT : Blk U (wr.heap.size + 1) [.int .i64 0, .int .i64 0] := by rw [HU.out]; exact (Blk.new1 wr _ [.int .i64 0, .int .i64 0] 61).bel hb9d
      have hHU : Bel wr U := by rw [HU.out]; exact hHeld
      have hne : wr.heap.size ≠ wr.heap.size + 1 := by omega
      rw [← HU.out]
      clear hHeld
      have hHeld := hHU
      obtain ⟨F, HF⟩ : ∃ F, Hid (wr.heap.size = F) := ⟨_, (rfl : wr.heap.size = _)⟩
      obtain ⟨T, HT⟩ : ∃ T, Hid (wr.heap.size + 1 = T) := ⟨_, (rfl : wr.heap.size + 1 = _)⟩
      have hFl : wr.heap.size ≤ F := by rw [← HF.out]; exact Nat.le_refl _
      have hTl : wr.heap.size ≤ T := by rw [← HT.out]; omega
      rw [HT.out] at hne XT ⊢
      rw [HF.out] at hne XF ⊢
      have u0 : U.cell? ⟨F, 0, none⟩ = some (.int .i64 0) := XF.cell 0 (by simp)
      have u1 : U.cell? ⟨F, 1, none⟩ = some (.int .i64 0) := XF.cell 1 (by simp)
      have v0 : U.cell? ⟨T, 0, none⟩ = some (.int .i64 0) := XT.cell 0 (by simp)
      have v1 : U.cell? ⟨T, 1, none⟩ = some (.int .i64 0) := XT.cell 1 (by simp)
      have fF := XF.free
      have fT := XT.free
      have lF := XF.lt
      have lT := XT.lt
      have hne' : T ≠ F := fun e => hne e.symm
      have YF : Hid (Blk ((((U.setCell ⟨F, 0, none⟩ (.int .i64 px)).setCell ⟨F, 1, none⟩ (.int .i64 py)).setCell ⟨T, 0, none⟩ (.int .i64 qx)).setCell ⟨T, 1, none⟩ (.int .i64 qy)) F [.int .i64 px, .int .i64 py]) := (((XF.set 0 _ (by simp)).set 1 _ (by simp)).far hne').far hne'
      have YT : Hid (Blk ((((U.setCell ⟨F, 0, none⟩ (.int .i64 px)).setCell ⟨F, 1, none⟩ (.int .i64 py)).setCell ⟨T, 0, none⟩ (.int .i64 qx)).setCell ⟨T, 1, none⟩ (.int .i64 qy)) T [.int .i64 qx, .int .i64 qy]) := (((XT.far hne).far hne).set 0 _ (by simp)).set 1 _ (by simp)
      clear XF XT
      refine rd1 17 (fun K hK => ?_)
      go_simp
      refine hK.out _ _ (bel_set (bel_set hHeld (by show wr.heap.size ≤ F; exact hFl) _) (by show wr.heap.size ≤ F; exact hFl) _) ?_; clear hK K hHeld; intro hHeld
      try simp only [Act.put, List.setIfInBounds_toArray, List.set_cons_zero, List.set_cons_succ]
      refine rd1 18 (fun K hK => ?_)
      go_simp
      refine hK.out _ _ (bel_set (bel_set hHeld (by show wr.heap.size ≤ T; exact hTl) _) (by show wr.heap.size ≤ T; exact hTl) _) ?_; clear hK K hHeld; intro hHeld
      try simp only [Act.put, List.setIfInBounds_toArray, List.set_cons_zero, List.set_cons_succ]
      refine tk 19 hHeld ?_
      refine wpAnyH_done (by kernel_rfl) ?_ _
      refine NoPanic.normal ?_
      clear u0 u1 v0 v1 fF fT hHU
      go_wp2_with fail
      go_meet
      case rel => exact ⟨⟨F, T, px, py, qx, qy, ok, rfl, rfl, rfl, YF.out, YT.out, hst, hFl, hTl, hHeld⟩⟩
    ·skip
     go_simp
     refine hK.out _ _ (bel_alloc hHeld _) ?_; clear hK K hHeld; intro hHeld
     try simp only [Act.put, List.setIfInBounds_toArray, List.set_cons_zero, List.set_cons_succ]
     refine rd2 10 15 (fun K hK => ?_) (fun K hK => ?_)
     ·skip
      go_simp
      refine (cP _).mono ?_
      rintro e w9 ⟨px, py, qx, qy, ok, rfl, hst, hb9⟩
      have h9l : wr.heap.size ≤ w9.heap.size := (bel_step hHeld hb9).out.size
      go_wp2_with fail
      refine hK.out _ _ (bel_step hHeld hb9) ?_; clear hK K hHeld; intro hHeld
      try simp only [Act.put, List.setIfInBounds_toArray, List.set_cons_zero, List.set_cons_succ]
      refine tk 11 hHeld ?_; refine tk 12 hHeld ?_; refine tk 13 hHeld ?_; refine tk 14 hHeld ?_
      refine rd1 15 (fun K hK => ?_)
      go_simp
      refine hK.out _ _ (bel_alloc hHeld _) ?_; clear hK K hHeld; intro hHeld
      try simp only [Act.put, List.setIfInBounds_toArray, List.set_cons_zero, List.set_cons_succ]
      have hb9d : Bel (wr.alloc (.cells #[.int .i64 0, .int .i64 0] 61)) w9 := bel_step (Bel.drew (Bel.refl _)) hb9
      have h9s := hb9d.out.size
      simp only [World.size_alloc] at h9s
      obtain ⟨U, HU⟩ : ∃ U, Hid (U = w9.alloc (.cells #[.int .i64 0, .int .i64 0] 61)) := ⟨_, (rfl : w9.alloc (.cells #[.int .i64 0, .int .i64 0] 61) = _)⟩
      have XF : Blk U (w9.heap.size) [.int .i64 0, .int .i64 0] := by rw [HU.out]; exact Blk.new w9 [.int .i64 0, .int .i64 0] _
      have XT : Blk U (wr.heap.size) [.int .i64 0, .int .i64 0] := by rw [HU.out]; exact ((Blk.new wr [.int .i64 0, .int .i64 0] 61).bel hb9d).bel (bel_alloc (Bel.refl _) _)
      have hHU : Bel wr U := by rw [HU.out]; exact hHeld
      have hne : w9.heap.size ≠ wr.heap.size := by omega
      rw [← HU.out]
      clear hHeld
      have hHeld := hHU
      obtain ⟨F, HF⟩ : ∃ F, Hid (w9.heap.size = F) := ⟨_, (rfl : w9.heap.size = _)⟩
      obtain ⟨T, HT⟩ : ∃ T, Hid (wr.heap.size = T) := ⟨_, (rfl : wr.heap.size = _)⟩
      have hFl : wr.heap.size ≤ F := by rw [← HF.out]; omega
      have hTl : wr.heap.size ≤ T := by rw [← HT.out]; exact Nat.le_refl _
      rw [HF.out] at hne XF ⊢
      rw [HT.out] at hne XT ⊢
      have u0 : U.cell? ⟨F, 0, none⟩ = some (.int .i64 0) := XF.cell 0 (by simp)
      have u1 : U.cell? ⟨F, 1, none⟩ = some (.int .i64 0) := XF.cell 1 (by simp)
      have v0 : U.cell? ⟨T, 0, none⟩ = some (.int .i64 0) := XT.cell 0 (by simp)
      have v1 : U.cell? ⟨T, 1, none⟩ = some (.int .i64 0) := XT.cell 1 (by simp)
      have fF := XF.free
      have fT := XT.free
      have lF := XF.lt
      have lT := XT.lt
      have hne' : T ≠ F := fun e => hne e.symm
      have YF : Hid (Blk ((((U.setCell ⟨F, 0, none⟩ (.int .i64 px)).setCell ⟨F, 1, none⟩ (.int .i64 py)).setCell ⟨T, 0, none⟩ (.int .i64 qx)).setCell ⟨T, 1, none⟩ (.int .i64 qy)) F [.int .i64 px, .int .i64 py]) := (((XF.set 0 _ (by simp)).set 1 _ (by simp)).far hne').far hne'
      have YT : Hid (Blk ((((U.setCell ⟨F, 0, none⟩ (.int .i64 px)).setCell ⟨F, 1, none⟩ (.int .i64 py)).setCell ⟨T, 0, none⟩ (.int .i64 qx)).setCell ⟨T, 1, none⟩ (.int .i64 qy)) T [.int .i64 qx, .int .i64 qy]) := (((XT.far hne).far hne).set 0 _ (by simp)).set 1 _ (by simp)
      clear XF XT
      refine rd1 17 (fun K hK => ?_)
      go_simp
      refine hK.out _ _ (bel_set (bel_set hHeld (by show wr.heap.size ≤ F; exact hFl) _) (by show wr.heap.size ≤ F; exact hFl) _) ?_; clear hK K hHeld; intro hHeld
      try simp only [Act.put, List.setIfInBounds_toArray, List.set_cons_zero, List.set_cons_succ]
      refine rd1 18 (fun K hK => ?_)
      go_simp
      refine hK.out _ _ (bel_set (bel_set hHeld (by show wr.heap.size ≤ T; exact hTl) _) (by show wr.heap.size ≤ T; exact hTl) _) ?_; clear hK K hHeld; intro hHeld
      try simp only [Act.put, List.setIfInBounds_toArray, List.set_cons_zero, List.set_cons_succ]
      refine tk 19 hHeld ?_
      refine wpAnyH_done (by kernel_rfl) ?_ _
      refine NoPanic.normal ?_
      clear u0 u1 v0 v1 fF fT hHU
      go_wp2_with fail
      go_meet
      case rel => exact ⟨⟨F, T, px, py, qx, qy, ok, rfl, rfl, rfl, YF.out, YT.out, hst, hFl, hTl, hHeld⟩⟩
     ·skip
      go_simp
      refine hK.out _ _ (bel_alloc hHeld _) ?_; clear hK K hHeld; intro hHeld
      try simp only [Act.put, List.setIfInBounds_toArray, List.set_cons_zero, List.set_cons_succ]
      refine rd1 10 (fun K hK => ?_)
      go_simp
      refine (cP _).mono ?_
      rintro e w9 ⟨px, py, qx, qy, ok, rfl, hst, hb9⟩
      have h9l : wr.heap.size ≤ w9.heap.size := (bel_step hHeld hb9).out.size
      go_wp2_with fail
      refine hK.out _ _ (bel_step hHeld hb9) ?_; clear hK K hHeld; intro hHeld
      try simp only [Act.put, List.setIfInBounds_toArray, List.set_cons_zero, List.set_cons_succ]
      refine tk 11 hHeld ?_; refine tk 12 hHeld ?_; refine tk 13 hHeld ?_; refine tk 14 hHeld ?_
      have hb9d : Bel ((wr.alloc (.cells #[.int .i64 0, .int .i64 0] 61)).alloc (.cells #[.int .i64 0, .int .i64 0] 61)) w9 := bel_step (Bel.drew (Bel.refl _)) hb9
      obtain ⟨U, HU⟩ : ∃ U, Hid (U = w9) := ⟨_, (rfl : w9 = _)⟩
      have XF : Blk U (wr.heap.size + 1) [.int .i64 0, .int .i64 0] := by rw [HU.out]; exact (Blk.new1 wr _ [.int .i64 0, .int .i64 0] 61).bel hb9d
      have XT : Blk U (wr.heap.size) [.int .i64 0, .int .i64 0] := by rw [HU.out]; exact ((Blk.new wr [.int .i64 0, .int .i64 0] 61).bel (bel_alloc (Bel.refl _) _)).bel hb9d
      have hHU : Bel wr U := by rw [HU.out]; exact hHeld
      have hne : wr.heap.size + 1 ≠ wr.heap.size := by omega
      rw [← HU.out]
      clear hHeld
      have hHeld := hHU
      obtain ⟨F, HF⟩ : ∃ F, Hid (wr.heap.size + 1 = F) := ⟨_, (rfl : wr.heap.size + 1 = _)⟩
      obtain ⟨T, HT⟩ : ∃ T, Hid (wr.heap.size = T) := ⟨_, (rfl : wr.heap.size = _)⟩
      have hFl : wr.heap.size ≤ F := by rw [← HF.out]; omega
      have hTl : wr.heap.size ≤ T := by rw [← HT.out]; exact Nat.le_refl _
      rw [HF.out] at hne XF ⊢
      rw [HT.out] at hne XT ⊢
      have u0 : U.cell? ⟨F, 0, none⟩ = some (.int .i64 0) := XF.cell 0 (by simp)
      have u1 : U.cell? ⟨F, 1, none⟩ = some (.int .i64 0) := XF.cell 1 (by simp)
      have v0 : U.cell? ⟨T, 0, none⟩ = some (.int .i64 0) := XT.cell 0 (by simp)
      have v1 : U.cell? ⟨T, 1, none⟩ = some (.int .i64 0) := XT.cell 1 (by simp)
      have fF := XF.free
      have fT := XT.free
      have lF := XF.lt
      have lT := XT.lt
      have hne' : T ≠ F := fun e => hne e.symm
      have YF : Hid (Blk ((((U.setCell ⟨F, 0, none⟩ (.int .i64 px)).setCell ⟨F, 1, none⟩ (.int .i64 py)).setCell ⟨T, 0, none⟩ (.int .i64 qx)).setCell ⟨T, 1, none⟩ (.int .i64 qy)) F [.int .i64 px, .int .i64 py]) := (((XF.set 0 _ (by simp)).set 1 _ (by simp)).far hne').far hne'
      have YT : Hid (Blk ((((U.setCell ⟨F, 0, none⟩ (.int .i64 px)).setCell ⟨F, 1, none⟩ (.int .i64 py)).setCell ⟨T, 0, none⟩ (.int .i64 qx)).setCell ⟨T, 1, none⟩ (.int .i64 qy)) T [.int .i64 qx, .int .i64 qy]) := (((XT.far hne).far hne).set 0 _ (by simp)).set 1 _ (by simp)
      clear XF XT
      refine rd1 17 (fun K hK => ?_)
      go_simp
      refine hK.out _ _ (bel_set (bel_set hHeld (by show wr.heap.size ≤ F; exact hFl) _) (by show wr.heap.size ≤ F; exact hFl) _) ?_; clear hK K hHeld; intro hHeld
      try simp only [Act.put, List.setIfInBounds_toArray, List.set_cons_zero, List.set_cons_succ]
      refine rd1 18 (fun K hK => ?_)
      go_simp
      refine hK.out _ _ (bel_set (bel_set hHeld (by show wr.heap.size ≤ T; exact hTl) _) (by show wr.heap.size ≤ T; exact hTl) _) ?_; clear hK K hHeld; intro hHeld
      try simp only [Act.put, List.setIfInBounds_toArray, List.set_cons_zero, List.set_cons_succ]
      refine tk 19 hHeld ?_
      refine wpAnyH_done (by kernel_rfl) ?_ _
      refine NoPanic.normal ?_
      clear u0 u1 v0 v1 fF fT hHU
      go_wp2_with fail
      go_meet
      case rel => exact ⟨⟨F, T, px, py, qx, qy, ok, rfl, rfl, rfl, YF.out, YT.out, hst, hFl, hTl, hHeld⟩⟩
   case rest =>
    obtain ⟨F, T, px, py, qx, qy, ok, rfl, rfl, rfl, XF, XT, hst, hFl, hTl, hbx⟩ := hcut.out
    obtain ⟨U, rfl⟩ : ∃ V, V = wc := ⟨_, rfl⟩
    clear XBr c0 c1 c2 c3 hcut
    have hRU := hR.bel hbx
    have hbU := bel_step hbr hbx
    cases ok
    ·have HN : Hid (CM W q X Y (k + 1) (.slice va m vc) (.bool false) U) := by
      have e : clpQ q X Y (k + 1) = (L, false) := by rw [HK2.out]; simp [hst]
      exact ⟨⟨G, C, by rw [e], by rw [e]; exact hRU, hbU⟩⟩
     clear hR hRU hst XF XT
     go_wp2
     go_roundw
     case rel => exact ⟨k + 1, by go_num, .inl (by omega), HN.out⟩
     case measure => simp [intOf]; omega
    ·have hst' : strC q (X k) (Y k) (X (k + 1)) (Y (k + 1)) = some ⟨px, py, qx, qy⟩ := by simpa using hst
     have hKe : clpQ q X Y (k + 1) = (addC L op ⟨px, py⟩ ⟨qx, qy⟩, true) := by rw [HK2.out, hst']
     have HKe : Hid (clpQ q X Y (k + 1) = (addC L op ⟨px, py⟩ ⟨qx, qy⟩, true)) := hKe
     clear hKe HK2 hst hst'
     go_upto_region 10 with fail
     have HLd : Hid (op = true → ∃ D e z, L = D ++ [e ++ [z]]) := fun h => by
      rcases snocL L with h0 | ⟨D, c', h0⟩
      ·exact absurd h0 (hj.ne h)
      ·rcases snocL c' with h1 | ⟨e, z, h1⟩
       ·exact absurd h1 (hj.good.ne c' (by rw [h0]; simp))
       ·exact ⟨D, e, z, by rw [h0, h1]⟩
     have hfl : L.flatten.length ≤ 4000 := by have := hj.flat; omega
     clear hj
     go_cut [55] (fun v wx => v = .bool (op && lastB L ⟨px, py⟩) ∧ Bel U wx)
     case first =>
      have gU : Bel U U.drew := Bel.drew (Bel.refl _)
      cases op
      ·refine wp_region_noPanic ?_
       refine wp_region_held_drew (S := fun w' => Bel U w') (by kernel_rfl) gU (fun hHeld => ?_)
       refine tk 0 hHeld ?_; refine tk 1 hHeld ?_
       refine sk 2 hHeld ?_; refine sk 3 hHeld ?_; refine sk 4 hHeld ?_; refine sk 5 hHeld ?_; refine sk 6 hHeld ?_; refine sk 7 hHeld ?_; refine sk 8 hHeld ?_; refine sk 9 hHeld ?_; refine sk 10 hHeld ?_; refine sk 11 hHeld ?_; refine sk 12 hHeld ?_; refine sk 13 hHeld ?_; refine sk 14 hHeld ?_; refine sk 15 hHeld ?_
       refine tk 16 hHeld ?_
       refine wpAnyH_done (by kernel_rfl) ?_ _
       refine NoPanic.normal ?_
       go_wp2_with fail
       go_meet
       case rel => exact ⟨rfl, hHeld⟩
      ·obtain ⟨D, e, z, hD⟩ := HLd.out rfl
       obtain ⟨d, Hd⟩ : ∃ d, Hid (D.length = d) := ⟨_, (rfl : D.length = _)⟩
       obtain ⟨s, Hs⟩ : ∃ s, Hid (e.length = s) := ⟨_, (rfl : e.length = _)⟩
       have hmd : m = d + 1 := by rw [← Hm.out, hD, ← Hd.out]; simp
       have hsl : s ≤ 4000 := by rw [hD] at hfl; simp at hfl; rw [← Hs.out]; omega
       have hdl : d < L.length := by rw [Hm.out]; omega
       have hLd : L[d] = e ++ [z] := by simp only [hD, ← Hd.out]; simp
       have hown := hRU.own
       rw [Hm.out] at hown
       obtain ⟨o, co, ho⟩ := own_someW hown (by omega : 0 < m)
       injection ho with ho1 _ ho3
       subst ho1 ho3
       have y0 := hown.cellAt d (by omega)
       rw [rwVs_get hdl, hLd] at y0
       have hin := hRU.row d hdl
       rw [hLd] at hin
       have hol := (hRU.own.lt o rfl).2
       have hgl := (hin.lt _ rfl).2
       have z0 := hin.cellAt (s * 2) (by simp only [List.length_append, List.length_singleton, Hs.out]; omega)
       have z1 := hin.cellAt (s * 2 + 1) (by simp only [List.length_append, List.length_singleton, Hs.out]; omega)
       rw [← Hs.out, (fl_last e z).1] at z0
       rw [← Hs.out, (fl_last e z).2] at z1
       have hel : (e ++ [z]).length = s + 1 := by simp [Hs.out]
       rw [hel] at y0
       rw [Hs.out] at z0 z1
       have hRR : ∀ w', Bel U w' → w'.cell? ⟨o, d, none⟩ = some (.slice (some ⟨G d, 0, none⟩) (s + 1) (C d)) ∧ w'.cell? ⟨G d, s * 2, none⟩ = some (.int .i64 z.x) ∧ w'.cell? ⟨G d, s * 2 + 1, none⟩ = some (.int .i64 z.y) ∧ w'.cell? ⟨F, 0, none⟩ = some (.int .i64 px) ∧ w'.cell? ⟨F, 1, none⟩ = some (.int .i64 py) := fun w' h =>
        ⟨bel_cellM h hol y0, bel_cellM h hgl z0, bel_cellM h hgl z1, (XF.bel h).cell 0 (by simp), (XF.bel h).cell 1 (by simp)⟩
       have HLB : Hid (lastB L ⟨px, py⟩ = (decide (z.x = px) && decide (z.y = py))) := (by rw [hD]; simp [lastB] : lastB L ⟨px, py⟩ = (decide (z.x = px) && decide (z.y = py)))
       have hmi : (m : Int) - 1 = (d : Int) := by omega
       have hdm : (d : Int) < (m : Int) := by omega
       have hn0 : (0 : Int) ≤ (s : Int) := by omega
       have hn1 : (s : Int) ≤ 1000000 := by omega
       have hn2 : (s : Int) < (s : Int) + 1 := by omega
       have hn3 : ¬ ((s : Int) < 0) := by omega
       have hk0 : IntKind.i64.wrap (s : Int) = s := by rw [IntKind.wrap_i64]; omega
       have hk1 : IntKind.i64.wrap ((s : Int) + 1 - 1) = s := by rw [IntKind.wrap_i64]; omega
       have hpe := ptEq
       obtain ⟨zx, Hzx⟩ : ∃ x, Hid (z.x = x) := ⟨_, (rfl : z.x = _)⟩
       obtain ⟨zy, Hzy⟩ : ∃ x, Hid (z.y = x) := ⟨_, (rfl : z.y = _)⟩
       rw [Hzx.out, Hzy.out] at hRR HLB
       obtain ⟨Gd, HGd⟩ : ∃ x, Hid (G d = x) := ⟨_, (rfl : G d = _)⟩
       obtain ⟨Cd, HCd⟩ : ∃ x, Hid (C d = x) := ⟨_, (rfl : C d = _)⟩
       rw [HGd.out, HCd.out] at hRR
       clear hin z0 z1 y0 hD hLd hel hRU hR hmd XF XT hown
       by_cases hz : zx = px ∧ zy = py
       ·have HF : Hid ((true && lastB L ⟨px, py⟩) = true) := (by rw [HLB.out, pt_same hz]; rfl : (true && lastB L ⟨px, py⟩) = true)
        have hq := pt_same hz
        refine wp_region_noPanic ?_
        refine wp_region_held_drew (S := fun w' => Bel U w') (by kernel_rfl) gU (fun hHeld => ?_)
        refine tk 0 hHeld ?_; refine tk 1 hHeld ?_; refine tk 2 hHeld ?_; refine tk 3 hHeld ?_; refine tk 4 hHeld ?_; refine tk 5 hHeld ?_; refine tk 6 hHeld ?_; refine tk 7 hHeld ?_; refine tk 8 hHeld ?_; refine tk 9 hHeld ?_; refine tk 10 hHeld ?_; refine tk 11 hHeld ?_; refine tk 12 hHeld ?_; refine tk 13 hHeld ?_; refine tk 14 hHeld ?_; refine tk 15 hHeld ?_; refine tk 16 hHeld ?_
        clear hmi
        refine wpAnyH_done (by kernel_rfl) ?_ _
        refine NoPanic.normal ?_
        go_wp2_with fail
        go_meet
        case rel => exact ⟨by rw [HF.out], hHeld⟩
       ·have HF : Hid ((true && lastB L ⟨px, py⟩) = false) := (by rw [HLB.out, pt_diff hz]; rfl : (true && lastB L ⟨px, py⟩) = false)
        have hq := pt_diff hz
        refine wp_region_noPanic ?_
        refine wp_region_held_drew (S := fun w' => Bel U w') (by kernel_rfl) gU (fun hHeld => ?_)
        refine tk 0 hHeld ?_; refine tk 1 hHeld ?_; refine tk 2 hHeld ?_; refine tk 3 hHeld ?_; refine tk 4 hHeld ?_; refine tk 5 hHeld ?_; refine tk 6 hHeld ?_; refine tk 7 hHeld ?_; refine tk 8 hHeld ?_; refine tk 9 hHeld ?_; refine tk 10 hHeld ?_; refine tk 11 hHeld ?_; refine tk 12 hHeld ?_; refine tk 13 hHeld ?_; refine tk 14 hHeld ?_; refine tk 15 hHeld ?_; refine tk 16 hHeld ?_
        clear hmi
        refine wpAnyH_done (by kernel_rfl) ?_ _
        refine NoPanic.normal ?_
        go_wp2_with fail
        go_meet
        case rel => exact ⟨by rw [HF.out], hHeld⟩
     case rest =>
      obtain ⟨rfl, hb2⟩ := hcut
      obtain ⟨U2, rfl⟩ : ∃ V, V = wc := ⟨_, rfl⟩
      have hR2 := hRU.bel hb2
      have XF2 := XF.bel hb2
      have XT2 := XT.bel hb2
      have hbU2 := bel_step hbU hb2
      clear hRU hR XF XT hbU
      have f0 : U2.cell? ⟨F, 0, none⟩ = some (.int .i64 px) := XF2.cell 0 (by simp)
      have f1 : U2.cell? ⟨F, 1, none⟩ = some (.int .i64 py) := XF2.cell 1 (by simp)
      have t0 : U2.cell? ⟨T, 0, none⟩ = some (.int .i64 qx) := XT2.cell 0 (by simp)
      have t1 : U2.cell? ⟨T, 1, none⟩ = some (.int .i64 qy) := XT2.cell 1 (by simp)
      have hFlt := XF2.lt
      have hTlt := XT2.lt
      have hWU : W.heap.size ≤ U2.heap.size := hbU2.out.size
      have hown := hR2.own
      rw [Hm.out] at hown
      cases hlb : (op && lastB L ⟨px, py⟩)
      ·have HE : Hid (addC L op ⟨px, py⟩ ⟨qx, qy⟩ = L ++ [[⟨px, py⟩, ⟨qx, qy⟩]]) := (by unfold addC; rw [if_neg (by rw [hlb]; decide)] : addC L op ⟨px, py⟩ ⟨qx, qy⟩ = L ++ [[⟨px, py⟩, ⟨qx, qy⟩]])
       have hownB : ((U2.alloc (.cells #[.int .i64 px, .int .i64 py, .int .i64 qx, .int .i64 qy] 61)).alloc (.cells #[.slice (some ⟨U2.heap.size, 0, none⟩) 2 2] 54)).ownsRow W.heap.size 54 1 (.slice va m vc) m (rwVs L G C) := (hown.alloc _).alloc _
       clear XF2 XT2 hown
       go_wp2_with (first
        | (at_builtin; refine wpList_append_lies _ rfl _ _ 52 rfl W.heap.size 54 i0 (.slice none 0 0) 1 24 Tryz.underlying52 hi0 hz0 hz1 hz2 rfl (by decide) _ _ _ rfl hownB ⟨U2.heap.size + 1, 0, none⟩ 1 1 [.slice (some ⟨U2.heap.size, 0, none⟩) 2 2] rfl rfl ?c1 ?c2 (by decide) ?c3 ?c4 ?c5 (U2.heap.size + 2) ?c6 ?_))
       case c1 =>
        intro j u hj
        match j, hj with
        | 0, hj => simp at hj; subst hj; simp [Addr.add]
       case c2 =>
        intro u hu
        simp at hu
        subst hu; rfl
       case c3 => unfold maxLen; omega
       case c4 => omega
       case c5 => simp; omega
       case c6 => simp
       intro g cap w5 hown' hgrow hat _
       have HN : Hid (CM W q X Y (k + 1) (.slice (some ⟨g, 0, none⟩) (m + 1) cap) (.bool true) w5) := by
        have hbA : Bel U2 ((U2.alloc (.cells #[.int .i64 px, .int .i64 py, .int .i64 qx, .int .i64 qy] 61)).alloc (.cells #[.slice (some ⟨U2.heap.size, 0, none⟩) 2 2] 54)) := bel_alloc (bel_alloc (Bel.refl _) _) _
        have hBl := (World.ownsRow_lit (e := 61) (size := 2) U2 #[.int .i64 px, .int .i64 py, .int .i64 qx, .int .i64 qy] 2 hWU (by decide) rfl).alloc (.cells #[.slice (some ⟨U2.heap.size, 0, none⟩) 2 2] 54)
        have hA := hR2.add (f := ⟨px, py⟩) (t := ⟨qx, qy⟩) hbA hBl (Nat.le_refl _) (v' := .slice (some ⟨g, 0, none⟩) (m + 1) cap) (by rw [Hm.out]; exact hown') hgrow (hatF (by simpa using hat))
        refine ⟨⟨_, _, by rw [HKe.out], by rw [HKe.out, HE.out]; exact hA, ?_⟩⟩
        exact bel_grow (bel_step hbU2 hbA) hgrow (fun j e => (hownB.lt j e).1)
       clear hown' hgrow hat hownB hR2 f0 f1 t0 t1
       go_wp2
       go_roundw
       case rel => exact ⟨k + 1, by go_num, .inl (by omega), HN.out⟩
       case measure => simp [intOf]; omega
      ·have hop : op = true := by cases op; simp at hlb; rfl
       obtain ⟨D, e, z, hD⟩ := HLd.out hop
       obtain ⟨d, Hd⟩ : ∃ d, Hid (D.length = d) := ⟨_, (rfl : D.length = _)⟩
       obtain ⟨s, Hs⟩ : ∃ s, Hid (e.length = s) := ⟨_, (rfl : e.length = _)⟩
       have hmd : m = d + 1 := by rw [← Hm.out, hD, ← Hd.out]; simp
       have hsl : s ≤ 4000 := by rw [hD] at hfl; simp at hfl; rw [← Hs.out]; omega
       have hdl : d < L.length := by rw [Hm.out]; omega
       have hLd : L[d] = e ++ [z] := by simp only [hD, ← Hd.out]; simp
       obtain ⟨o, co, ho⟩ := own_someW hown (by omega : 0 < m)
       injection ho with ho1 _ ho3
       subst ho1 ho3
       have y0 := hown.cellAt d (by omega)
       rw [rwVs_get hdl, hLd] at y0
       have hin := hR2.row d hdl
       rw [hLd] at hin
       have hel : (e ++ [z]).length = s + 1 := by simp [Hs.out]
       rw [hel] at y0 hin
       have hol := (hown.lt o rfl).2
       have hol1 := (hown.lt o rfl).1
       have hoff : o ≠ G d := fun e => hR2.off d hdl (by show some o = some (G d); rw [e])
       obtain ⟨Gd, HGd⟩ : ∃ x, Hid (G d = x) := ⟨_, (rfl : G d = _)⟩
       obtain ⟨Cd, HCd⟩ : ∃ x, Hid (C d = x) := ⟨_, (rfl : C d = _)⟩
       rw [HGd.out, HCd.out] at y0 hin
       rw [HGd.out] at hoff
       obtain ⟨xs, Hxs⟩ : ∃ x, Hid ((e ++ [z]).flatMap pqCs = x) := ⟨_, (rfl : (e ++ [z]).flatMap pqCs = _)⟩
       rw [Hxs.out] at hin
       have hmi : (m : Int) - 1 = (d : Int) := by omega
       have hdm : (d : Int) < (m : Int) := by omega
       have hd0 : (0 : Int) ≤ (d : Int) := by omega
       have Hmd : Hid (m = d + 1) := hmd
       have hownC : (U2.alloc (.cells #[.int .i64 qx, .int .i64 qy] 61)).drew.ownsRow W.heap.size 61 2 (.slice (some ⟨Gd, 0, none⟩) (s + 1) Cd) (s + 1) xs := (hin.alloc _).drew
       have hzo := hown.frozenAt d
       have HST : Hid (∀ wB, (U2.alloc (.cells #[.int .i64 qx, .int .i64 qy] 61)).drew.grownBy wB (some Gd) → wB.cell? ⟨o, d, none⟩ = some (.slice (some ⟨Gd, 0, none⟩) (s + 1) Cd) ∧ wB.frozen? ⟨o, d, none⟩ = false) := fun wB hg => by
        have h1 : o < (U2.alloc (.cells #[.int .i64 qx, .int .i64 qy] 61)).drew.heap.size := by show o < (U2.alloc _).heap.size; rw [World.size_alloc]; omega
        have hbb : Bel U2 (U2.alloc (.cells #[.int .i64 qx, .int .i64 qy] 61)).drew := (bel_alloc (Bel.refl _) _).drew
        exact ⟨(hg.cell_far ⟨o, d, none⟩ h1 (by show some o ≠ some Gd; exact fun e => hoff (by injection e))).trans (bel_cellM hbb hol y0), (hg.frozen_far ⟨o, d, none⟩ h1 (by show some o ≠ some Gd; exact fun e => hoff (by injection e))).trans ((hbb.out.frozen (p := ⟨o, d, none⟩) hol).trans hzo)⟩
       have HR2 : Hid (RwM W.heap.size U2 (.slice (some ⟨o, 0, none⟩) m vc) (D ++ [e ++ [z]]) G C) := (by rw [← hD]; exact hR2 : RwM W.heap.size U2 (.slice (some ⟨o, 0, none⟩) m vc) (D ++ [e ++ [z]]) G C)
       have HE : Hid (addC L op ⟨px, py⟩ ⟨qx, qy⟩ = D ++ [(e ++ [z]) ++ [⟨qx, qy⟩]]) := (by unfold addC; rw [if_pos hlb, hD]; simp : addC L op ⟨px, py⟩ ⟨qx, qy⟩ = D ++ [(e ++ [z]) ++ [⟨qx, qy⟩]])
       clear XF2 XT2 hown hR2 hin hD hLd hel f0 f1 hlb hmd
       go_upto_region 11 with fail
       go_region_law (first
        | (refine step_append_lies _ rfl _ _ _ rfl W.heap.size 61 i1 (.agg #[.int .i64 0, .int .i64 0]) 2 16 Tryz.underlying54 hi1 hy0 hy1 hy2 rfl (by decide) (.slice (some ⟨Gd, 0, none⟩) (s + 1) Cd) (s + 1) xs (by rfl) hownC ⟨U2.heap.size, 0, none⟩ 1 1 [.int .i64 qx, .int .i64 qy] (by rfl) (by rfl) (World.news_of_block (cs := #[.int .i64 qx, .int .i64 qy]) (t := 61) (fr := (0, 0)) (heap_alloc_new U2 _)) (by simp [Value.oneCell']) (by omega) (by unfold maxLen; omega) (by omega) (by simp; omega) (U2.heap.size + 1) (by simp) ?_; intro g cap wB hownB hgrow hat _; obtain ⟨y6, z6⟩ := HST.out wB hgrow))
       all_goals
        have HN : Hid (CM W q X Y (k + 1) (.slice (some ⟨o, 0, none⟩) m vc) (.bool true) (wB.setCell ⟨o, d, none⟩ (.slice (some ⟨g, 0, none⟩) (s + 1 + 1) cap))) := by
         have hbA : Bel U2 (U2.alloc (.cells #[.int .i64 qx, .int .i64 qy] 61)).drew := (bel_alloc (Bel.refl _) _).drew
         have hcl : (e ++ [z]).length = s + 1 := by simp [Hs.out]
         have hA := HR2.out.grow (t := ⟨qx, qy⟩) (g' := g) (cap' := cap) (wb := wB) (by rw [Hmd.out, Hd.out]) hbA (by rw [hcl, Hxs.out]; exact hownB) (by rw [Hd.out, HGd.out]; exact hgrow) (by
          rw [Hd.out, HGd.out]
          have h1 : Gd = g ∨ g = U2.heap.size + 1 := by simpa [Value.ownBlock] using hat
          rcases h1 with h | h
          ·exact .inl h.symm
          ·exact .inr (by rw [h]; show U2.heap.size + 1 = (U2.alloc _).heap.size; rw [World.size_alloc]))
         rw [Hd.out, hcl] at hA
         refine ⟨⟨_, _, by rw [HKe.out], by rw [HKe.out, HE.out]; exact hA, ?_⟩⟩
         exact bel_set (bel_grow (bel_step hbU2 hbA) hgrow (fun j e => (hownC.lt j e).1)) (by show W.heap.size ≤ o; exact hol1) _
        clear hownB hgrow hat y6 z6 hownC t0 t1
        go_wp2_with fail
        go_roundw
        case rel => exact ⟨k + 1, by go_num, .inl (by omega), HN.out⟩
        case measure => simp [intOf]; omega
  ·have hkn : k = n - 1 := by omega
   have hlt' : ¬ (k : Int) + 1 < (n : Int) := by omega
   have HO : Hid (∃ G C, RwM W.heap.size wr v (clpQ q X Y (n - 1)).1 G C) := by rw [← hkn]; exact ⟨G, C, hR⟩
   clear hR hI
   go_wp2
   go_ret
   obtain ⟨GG, CC, hRW⟩ := HO.out
   first | exact ⟨_, rfl, _, hBW.out.size, ⟨GG, CC, hRW⟩, bel_step hBW hbr⟩ | exact ⟨_, rfl, _, hBW.out.size, GG, CC, hRW, bel_step hBW hbr⟩ | exact ⟨_, _, GG, CC, rfl, hBW.out.size, hRW, bel_step hBW hbr⟩ | exact ⟨_, _, ⟨GG, CC, rfl⟩, hBW.out.size, hRW, bel_step hBW hbr⟩
end Go.Proofs.YtldfcnlhjjiihaaGreat
