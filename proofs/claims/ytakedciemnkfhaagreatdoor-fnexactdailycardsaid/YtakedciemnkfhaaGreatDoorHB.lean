/-
  The best of some Roads to go on with, in the model: l10Choose: contract.
  The best path in the model: what it is chosen by: mathematics.
-/
import Derived.Test.YtakedciemnkfhaaGreatDoorGY
import Derived.Test.YtakedciemnkfhaaGreatDoorGQ
import Derived.Test.YtakedciemnkfhaaGreatDoorHC
namespace Go.Proofs.YtakedciemnkfhaaGreatDoor
open Go.RowKit Go.Maps

/-- What a Road costs that may be gone on with. -/
def chF (dl : List Cst) (ex : Nat → Int) (x : Nat) : Option Cst := if (cAt dl x).t < 0 ∨ ex x < 0 then none else some ⟨(cAt dl x).t + ex x, (cAt dl x).c⟩
/-- Is it taken? -/
def decB (a : Option (Nat × Cst)) (c : Cst) : Bool :=
 match a with
 | none => true
 | some b => cLtB c b.2
theorem miS_dec {f : Nat → Option Cst} {a : Option (Nat × Cst)} {x : Nat} {c : Cst} (h : f x = some c) : miS f a x = if decB a c = true then some (x, c) else a := by
 cases a with
 | none => rw [miS_first h]; rfl
 | some b =>
  cases hl : cLtB c b.2 with
  | true => rw [miS_less h hl, if_pos (by exact hl)]
  | false => rw [miS_not h hl, if_neg (by show ¬ cLtB c b.2 = true; rw [hl]; decide)]
def chC : Option (Nat × Cst) → Int
 | none => 0
 | some b => b.2.t
def chX (a : Option (Nat × Cst)) : Int := nxI (a.map Prod.fst)

set_option maxRecDepth 100000 in
set_option maxHeartbeats 4000000 in
theorem l10Choose_any (Bt Bc n : Nat) (dl : List Cst) (rs : List Nat) (ex : Nat → Int) (ra : Option Addr) (m rc : Nat) (ea : Option Addr) (ec lo lo' : Nat) (w : World) (hT : Blk w Bt (tmV dl)) (hC : Blk w Bc (ctV dl)) (hn : dl.length = n) (hr : ∀ x ∈ rs, x < n) (hR : w.ownsRow lo 2 1 (.slice ra m rc) m (intsN rs)) (hm : rs.length = m) (hE : w.ownsRow lo' 2 1 (.slice ea m ec) m (intsV (rs.map ex)))
  (hb : ∀ x, x < n → -1 ≤ (cAt dl x).t ∧ (cAt dl x).t ≤ 100000000000) (hx : ∀ x, -1 ≤ ex x ∧ ex x ≤ 20) (hm8 : m ≤ 8000) :
  Calls Tryz.prog 85 #[.agg #[.slice (some ⟨Bt, 0, none⟩) n n, .slice (some ⟨Bc, 0, none⟩) n n], .slice ra m rc, .slice ea m ec] w fun e w' => e = .returned (.int .i64 (chX (miF (chF dl ex) rs))) ∧ Bel w w' := by
 obtain ⟨W, HW⟩ : ∃ W, Hid (W = w.alloc (.cells #[.slice (some ⟨Bt, 0, none⟩) n n, .slice (some ⟨Bc, 0, none⟩) n n] 92)) := ⟨_, (rfl : w.alloc (.cells #[.slice (some ⟨Bt, 0, none⟩) n n, .slice (some ⟨Bc, 0, none⟩) n n] 92) = _)⟩
 have hBW : Bel w W := by rw [HW.out]; exact bel_alloc (Bel.refl _) _
 have XW : Blk W w.heap.size [.slice (some ⟨Bt, 0, none⟩) n n, .slice (some ⟨Bc, 0, none⟩) n n] := by rw [HW.out]; exact Blk.new w [.slice (some ⟨Bt, 0, none⟩) n n, .slice (some ⟨Bc, 0, none⟩) n n] _
 obtain ⟨nw, Hnw⟩ : ∃ k, Hid (w.heap.size = k) := ⟨_, (rfl : w.heap.size = _)⟩
 rw [Hnw.out] at XW
 have HXW : Hid (Blk W nw [.slice (some ⟨Bt, 0, none⟩) n n, .slice (some ⟨Bc, 0, none⟩) n n]) := XW
 have HBW : Hid (Bel w W) := hBW
 have Hm : Hid (rs.length = m) := hm
 have HTt : Hid (∀ x, x < n → ∀ w', Bel w w' → w'.cell? ⟨Bt, x, none⟩ = some (.int .i64 (cAt dl x).t) ∧ Bt < w'.heap.size) := (fun x hx w' h => by
  have hd : x < dl.length := by rw [hn]; exact hx
  have h1 := (hT.bel h).cell x (by simpa using hd)
  rw [List.getElem_map, ← cAt_eq hd] at h1
  exact ⟨h1, (hT.bel h).lt⟩ : ∀ x, x < n → ∀ w', Bel w w' → w'.cell? ⟨Bt, x, none⟩ = some (.int .i64 (cAt dl x).t) ∧ Bt < w'.heap.size)
 have HTc : Hid (∀ x, x < n → ∀ w', Bel w w' → w'.cell? ⟨Bc, x, none⟩ = some (.int .i64 (cAt dl x).c) ∧ Bc < w'.heap.size) := (fun x hx w' h => by
  have hd : x < dl.length := by rw [hn]; exact hx
  have h1 := (hC.bel h).cell x (by simpa using hd)
  rw [List.getElem_map, ← cAt_eq hd] at h1
  exact ⟨h1, (hC.bel h).lt⟩ : ∀ x, x < n → ∀ w', Bel w w' → w'.cell? ⟨Bc, x, none⟩ = some (.int .i64 (cAt dl x).c) ∧ Bc < w'.heap.size)
 have HR : Hid (w.ownsRow lo 2 1 (.slice ra m rc) m (intsN rs)) := hR
 have HE : Hid (w.ownsRow lo' 2 1 (.slice ea m ec) m (intsV (rs.map ex))) := hE
 have Hr : Hid (∀ x ∈ rs, x < n) := hr
 have Hb : Hid (∀ x, x < n → -1 ≤ (cAt dl x).t ∧ (cAt dl x).t ≤ 100000000000) := hb
 have Hx : Hid (∀ x, -1 ≤ ex x ∧ ex x ≤ 20) := hx
 obtain ⟨f, Hf⟩ : ∃ f, Hid (chF dl ex = f) := ⟨_, (rfl : chF dl ex = _)⟩
 obtain ⟨Q, HQ⟩ : ∃ q, Hid (miF f rs = q) := ⟨_, (rfl : miF f rs = _)⟩
 rw [Hf.out, HQ.out]
 clear hT hC hn hr hR hm hE hb hx XW hBW
 go_enter Tryz.func85, Tryz.ntmps85
 go_upto_region 3 with fail
 rw [← HW.out, Hnw.out]
 go_wp2_with fail
 go_loopw [7, 8, 9, 10, 11] (fun b c i _ _ wr => ∃ (k : Nat) (a : Option (Nat × Cst)), k ≤ m ∧ b = .int .i64 (chX a) ∧ c = .int .i64 (chC a) ∧ i = .int .i64 k ∧ Hid (miF f (rs.take k) = a) ∧ Hid (Blk wr nw [.slice (some ⟨Bt, 0, none⟩) n n, .slice (some ⟨Bc, 0, none⟩) n n]) ∧ Hid (Bel w wr)) (fun _ _ i _ _ _ => m - (intOf i).toNat)
 case atStart => exact ⟨0, none, Nat.zero_le _, rfl, rfl, rfl, (rfl : miF f (rs.take 0) = none), HXW, HBW⟩
 case round =>
  clear HXW HBW
  obtain ⟨k, a, hk, rfl, rfl, rfl, HA, HXr, HB⟩ := hrel
  by_cases hlt : k < m
  ·have hkr : k < rs.length := by rw [Hm.out]; exact hlt
   obtain ⟨ga, cap, ev, _, _⟩ := own_in HR.out (by omega)
   simp only [Value.slice.injEq] at ev
   obtain ⟨rfl, _, rfl⟩ := ev
   obtain ⟨ge, cap, ev, _, _⟩ := own_in HE.out (by omega)
   simp only [Value.slice.injEq] at ev
   obtain ⟨rfl, _, rfl⟩ := ev
   have hxn := Hr.out rs[k] (List.getElem_mem _)
   have HS := miF_take (f := f) hkr
   rw [HA.out] at HS
   obtain ⟨x, Hxk⟩ : ∃ x, Hid (rs[k] = x) := ⟨_, (rfl : rs[k] = _)⟩
   rw [Hxk.out] at hxn HS
   have r0 : ∀ w', Bel w w' → w'.cell? ⟨ga, k, none⟩ = some (.int .i64 (x : Int)) ∧ ga < w'.heap.size := fun w' h => by
    have hrow := own_bel HR.out h
    refine ⟨?_, (World.ownsRow.lt hrow ga rfl).2⟩
    rw [hrow.cellAt k (by omega), ← Hxk.out]
    unfold intsN
    rw [List.getElem?_map, List.getElem?_eq_getElem hkr]
    rfl
   have e0 : ∀ w', Bel w w' → w'.cell? ⟨ge, k, none⟩ = some (.int .i64 (ex x)) ∧ ge < w'.heap.size := fun w' h => by
    have hrow := own_bel HE.out h
    refine ⟨?_, (World.ownsRow.lt hrow ge rfl).2⟩
    rw [hrow.cellAt k (by omega), ← Hxk.out]
    unfold intsV
    rw [List.getElem?_map, List.getElem?_map, List.getElem?_eq_getElem hkr]
    rfl
   have hbx := Hb.out x hxn
   have hxx := Hx.out x
   have hfx : f x = if (cAt dl x).t < 0 ∨ ex x < 0 then none else some ⟨(cAt dl x).t + ex x, (cAt dl x).c⟩ := by rw [← Hf.out]; rfl
   obtain ⟨q0, q0l⟩ := HTt.out x hxn wr HB.out
   obtain ⟨p0, p0l⟩ := r0 wr HB.out
   obtain ⟨g0, g0l⟩ := e0 wr HB.out
   have x0 : wr.cell? ⟨nw, 0, none⟩ = some (.slice (some ⟨Bt, 0, none⟩) n n) := HXr.out.cell 0 (by simp)
   have xl := HXr.out.lt
   obtain ⟨t, Ht⟩ : ∃ t, Hid ((cAt dl x).t = t) := ⟨_, (rfl : (cAt dl x).t = _)⟩
   obtain ⟨cc, Hcc⟩ : ∃ t, Hid ((cAt dl x).c = t) := ⟨_, (rfl : (cAt dl x).c = _)⟩
   obtain ⟨u, Hu⟩ : ∃ t, Hid (ex x = t) := ⟨_, (rfl : ex x = _)⟩
   rw [Ht.out] at q0 hbx hfx
   rw [Hcc.out] at hfx
   rw [Hu.out] at g0 hxx hfx
   have hxI : (x : Int) < (n : Int) := by omega
   have hkI : (k : Int) < (m : Int) := by omega
   by_cases ht0 : t < 0
   ·rw [if_pos (.inl ht0)] at hfx
    rw [miS_none hfx] at HS
    have HA2 : Hid (miF f (rs.take (k + 1)) = a) := HS
    have hd1 : decide (t < 0) = true := by simp [ht0]
    clear r0 e0 HS hfx
    go_wp2
    go_roundw
    case rel => exact ⟨k + 1, a, by omega, rfl, rfl, by go_num, HA2, HXr, HB⟩
    case measure => simp [intOf]; omega
   ·have hd1 : decide (t < 0) = false := by simp [ht0]
    by_cases hu0 : u < 0
    ·rw [if_pos (.inr hu0)] at hfx
     rw [miS_none hfx] at HS
     have HA2 : Hid (miF f (rs.take (k + 1)) = a) := HS
     have hd2 : decide (u < 0) = true := by simp [hu0]
     clear r0 e0 HS hfx
     go_wp2
     go_roundw
     case rel => exact ⟨k + 1, a, by omega, rfl, rfl, by go_num, HA2, HXr, HB⟩
     case measure => simp [intOf]; omega
    ·have hd2 : decide (u < 0) = false := by simp [hu0]
     rw [if_neg (fun h => h.elim ht0 hu0)] at hfx
     rw [miS_dec hfx] at HS
     obtain ⟨dec, Hdec⟩ : ∃ b, Hid (decB a ⟨t + u, cc⟩ = b) := ⟨_, (rfl : decB a ⟨t + u, cc⟩ = _)⟩
     rw [Hdec.out] at HS
     have HSt : Hid (miF f (rs.take (k + 1)) = if dec = true then some (x, ⟨t + u, cc⟩) else a) := HS
     have hw : IntKind.i64.wrap (t + u) = t + u := by rw [IntKind.wrap_i64]; omega
     have HS8 : Hid (wr.drew.cell? ⟨nw, 0, none⟩ = some (.slice (some ⟨Bt, 0, none⟩) n n) ∧ wr.drew.cell? ⟨Bt, x, none⟩ = some (.int .i64 t) ∧ wr.drew.cell? ⟨ge, k, none⟩ = some (.int .i64 u)) := ⟨x0, q0, g0⟩
     have HMem : Hid (∀ b, a = some b → b.1 < n ∧ (cAt dl b.1).c = b.2.c) := (fun b e => by
      have h := miF_mem (x := b.1) (c := b.2) (HA.out.trans e)
      have hbn := Hr.out b.1 (List.mem_of_mem_take h.1)
      have h2 := h.2
      rw [← Hf.out] at h2
      unfold chF at h2
      split at h2
      ·exact nomatch h2
      ·injection h2 with h2
       exact ⟨hbn, by rw [← h2]⟩ : ∀ b, a = some b → b.1 < n ∧ (cAt dl b.1).c = b.2.c)
     clear r0 e0 HS hfx
     go_upto_region 8 with fail
     clear q0 q0l p0 p0l g0 g0l x0 xl
     refine wp_region_noPanic ?_
     refine wp_region_held_drew (S := fun w' => w'.cell? ⟨nw, 0, none⟩ = some (.slice (some ⟨Bt, 0, none⟩) n n) ∧ w'.cell? ⟨Bt, x, none⟩ = some (.int .i64 t) ∧ w'.cell? ⟨ge, k, none⟩ = some (.int .i64 u)) (by kernel_rfl) HS8.out (fun hHeld => ?_)
     have hb0 : Bel wr wr.drew := (Bel.refl _).drew
     clear HS8
     generalize wr.drew = Z at hHeld hb0 ⊢
     refine tk 0 hHeld ?_; refine tk 1 hHeld ?_; refine tk 2 hHeld ?_; refine tk 3 hHeld ?_; refine tk 4 hHeld ?_; refine tk 5 hHeld ?_; refine tk 6 hHeld ?_; refine tk 7 hHeld ?_; refine tk 8 hHeld ?_; refine tk 9 hHeld ?_; refine tk 10 hHeld ?_
     refine wpAnyH_done (by kernel_rfl) ?_ _
     refine NoPanic.normal ?_
     clear hHeld
     have HXz : Hid (Blk Z nw [.slice (some ⟨Bt, 0, none⟩) n n, .slice (some ⟨Bc, 0, none⟩) n n]) := HXr.out.bel hb0
     have HBz : Hid (Bel w Z) := bel_step HB.out hb0
     clear HXr HB hb0
     obtain ⟨wo, rfl⟩ : ∃ V, V = wr := ⟨_, rfl⟩
     obtain ⟨wr, rfl⟩ : ∃ V, V = Z := ⟨_, rfl⟩
     have HB := HBz
     go_upto_region 9 with fail
     go_cut [69] (fun v wx => v = .bool dec ∧ Hid (Bel wr wx))
     case first =>
      cases a with
      | none =>
       have HD : Hid (dec = true) := (by rw [← Hdec.out]; rfl : dec = true)
       have HS9 : Hid (wr.drew.cell? ⟨nw, 1, none⟩ = some (.slice (some ⟨Bc, 0, none⟩) n n)) := HXz.out.cell 1 (by simp)
       have hneg : decide ((-1 : Int) < 0) = true := by decide
       simp only [chX, Option.map_none, nxI]
       refine wp_region_noPanic ?_
       refine wp_region_held_drew (S := fun w' => w'.cell? ⟨nw, 1, none⟩ = some (.slice (some ⟨Bc, 0, none⟩) n n)) (by kernel_rfl) (HS9.out) (fun hHeld => ?_)
       have hY0 : Bel wr wr.drew := (Bel.refl _).drew
       clear HS9
       generalize wr.drew = Y at hHeld hY0 ⊢
       refine tk 0 hHeld ?_; refine tk 1 hHeld ?_; refine tk 2 hHeld ?_
       refine sk 3 hHeld ?_; refine sk 4 hHeld ?_; refine sk 5 hHeld ?_; refine tk 6 hHeld ?_; refine tk 7 hHeld ?_; refine sk 8 hHeld ?_; refine sk 9 hHeld ?_; refine sk 10 hHeld ?_; refine sk 11 hHeld ?_; refine sk 12 hHeld ?_; refine sk 13 hHeld ?_; refine sk 14 hHeld ?_; refine sk 15 hHeld ?_; refine sk 16 hHeld ?_; refine sk 17 hHeld ?_; refine sk 18 hHeld ?_; refine sk 19 hHeld ?_; refine sk 20 hHeld ?_; refine sk 21 hHeld ?_; refine sk 22 hHeld ?_; refine sk 23 hHeld ?_; refine tk 24 hHeld ?_
       refine wpAnyH_done (by kernel_rfl) ?_ _
       refine NoPanic.normal ?_
       go_wp2_with fail
       go_meet
       case rel => exact ⟨by rw [HD.out], hY0⟩
      | some b =>
       obtain ⟨bx, bt, bc⟩ := b
       obtain ⟨hbn, hbc⟩ := HMem.out _ rfl
       simp only at hbn hbc
       have hDd : dec = cLtB ⟨t + u, cc⟩ ⟨bt, bc⟩ := Hdec.out.symm
       have HS9 : Hid ((fun w' : World => w'.cell? ⟨nw, 1, none⟩ = some (.slice (some ⟨Bc, 0, none⟩) n n) ∧ w'.cell? ⟨Bc, x, none⟩ = some (.int .i64 cc) ∧ w'.cell? ⟨Bc, bx, none⟩ = some (.int .i64 bc)) wr.drew) := ⟨HXz.out.cell 1 (by simp), by rw [← Hcc.out]; exact (HTc.out x hxn _ HB.out.drew).1, by rw [← hbc]; exact (HTc.out bx hbn _ HB.out.drew).1⟩
       have hpos : decide ((bx : Int) < 0) = false := by rw [decide_eq_false_iff_not]; omega
       have hpos2 : ¬ (bx : Int) < 0 := by omega
       have hbI : (bx : Int) < (n : Int) := by omega
       simp only [chX, chC, Option.map_some, nxI]
       clear hbc
       by_cases h1 : t + u < bt
       ·have HD : Hid (dec = true) := (by rw [hDd]; simp [cLtB, h1] : dec = true)
        have hc1 : decide (t + u < bt) = true := by simp [h1]
        clear hDd
        refine wp_region_noPanic ?_
        refine wp_region_held_drew (S := fun w' => w'.cell? ⟨nw, 1, none⟩ = some (.slice (some ⟨Bc, 0, none⟩) n n) ∧ w'.cell? ⟨Bc, x, none⟩ = some (.int .i64 cc) ∧ w'.cell? ⟨Bc, bx, none⟩ = some (.int .i64 bc)) (by kernel_rfl) (HS9.out) (fun hHeld => ?_)
        have hY0 : Bel wr wr.drew := (Bel.refl _).drew
        clear HS9
        generalize wr.drew = Y at hHeld hY0 ⊢
        refine tk 0 hHeld ?_; refine tk 1 hHeld ?_; refine tk 2 hHeld ?_; refine tk 3 hHeld ?_; refine tk 4 hHeld ?_; refine tk 5 hHeld ?_; refine tk 6 hHeld ?_; refine tk 7 hHeld ?_
        refine sk 8 hHeld ?_; refine sk 9 hHeld ?_; refine sk 10 hHeld ?_; refine sk 11 hHeld ?_; refine sk 12 hHeld ?_; refine sk 13 hHeld ?_; refine sk 14 hHeld ?_; refine sk 15 hHeld ?_; refine sk 16 hHeld ?_; refine sk 17 hHeld ?_; refine sk 18 hHeld ?_; refine sk 19 hHeld ?_; refine sk 20 hHeld ?_; refine sk 21 hHeld ?_; refine sk 22 hHeld ?_; refine sk 23 hHeld ?_
        refine tk 24 hHeld ?_
        refine wpAnyH_done (by kernel_rfl) ?_ _
        refine NoPanic.normal ?_
        go_wp2_with fail
        go_meet
        case rel => exact ⟨by rw [HD.out], hY0⟩
       ·have hc1 : decide (t + u < bt) = false := by simp [h1]
        by_cases h2 : t + u = bt
        ·have hc2 : (t + u == bt) = true := by simp [h2]
         have HD : Hid (dec = decide (cc < bc)) := (by rw [hDd]; simp [cLtB, h2] : dec = decide (cc < bc))
         clear hDd
         obtain ⟨dc, Hdc⟩ : ∃ b, decide (cc < bc) = b := ⟨_, rfl⟩
         rw [Hdc] at HD
         clear h2
         refine wp_region_noPanic ?_
         refine wp_region_held_drew (S := fun w' => w'.cell? ⟨nw, 1, none⟩ = some (.slice (some ⟨Bc, 0, none⟩) n n) ∧ w'.cell? ⟨Bc, x, none⟩ = some (.int .i64 cc) ∧ w'.cell? ⟨Bc, bx, none⟩ = some (.int .i64 bc)) (by kernel_rfl) (HS9.out) (fun hHeld => ?_)
         have hY0 : Bel wr wr.drew := (Bel.refl _).drew
         clear HS9
         generalize wr.drew = Y at hHeld hY0 ⊢
         refine tk 0 hHeld ?_; refine tk 1 hHeld ?_; refine tk 2 hHeld ?_; refine tk 3 hHeld ?_; refine tk 4 hHeld ?_; refine tk 5 hHeld ?_; refine tk 6 hHeld ?_; refine tk 7 hHeld ?_; refine tk 8 hHeld ?_; refine tk 9 hHeld ?_; refine tk 10 hHeld ?_; refine tk 11 hHeld ?_; refine tk 12 hHeld ?_; refine tk 13 hHeld ?_; refine tk 14 hHeld ?_; refine tk 15 hHeld ?_; refine tk 16 hHeld ?_; refine tk 17 hHeld ?_; refine tk 18 hHeld ?_; refine tk 19 hHeld ?_; refine tk 20 hHeld ?_; refine tk 21 hHeld ?_; refine tk 22 hHeld ?_; refine tk 23 hHeld ?_; refine tk 24 hHeld ?_
         refine wpAnyH_done (by kernel_rfl) ?_ _
         refine NoPanic.normal ?_
         go_wp2_with fail
         go_meet
         case rel => exact ⟨by rw [HD.out], hY0⟩
        ·have hc2 : (t + u == bt) = false := by simp [h2]
         have HD : Hid (dec = false) := (by rw [hDd]; simp [cLtB, h1, h2] : dec = false)
         clear hDd
         refine wp_region_noPanic ?_
         refine wp_region_held_drew (S := fun w' => w'.cell? ⟨nw, 1, none⟩ = some (.slice (some ⟨Bc, 0, none⟩) n n) ∧ w'.cell? ⟨Bc, x, none⟩ = some (.int .i64 cc) ∧ w'.cell? ⟨Bc, bx, none⟩ = some (.int .i64 bc)) (by kernel_rfl) (HS9.out) (fun hHeld => ?_)
         have hY0 : Bel wr wr.drew := (Bel.refl _).drew
         clear HS9
         generalize wr.drew = Y at hHeld hY0 ⊢
         refine tk 0 hHeld ?_; refine tk 1 hHeld ?_; refine tk 2 hHeld ?_; refine tk 3 hHeld ?_; refine tk 4 hHeld ?_; refine tk 5 hHeld ?_; refine tk 6 hHeld ?_; refine tk 7 hHeld ?_; refine tk 8 hHeld ?_; refine tk 9 hHeld ?_; refine tk 10 hHeld ?_; refine tk 11 hHeld ?_
         refine sk 12 hHeld ?_; refine sk 13 hHeld ?_; refine sk 14 hHeld ?_; refine sk 15 hHeld ?_; refine sk 16 hHeld ?_; refine sk 17 hHeld ?_; refine sk 18 hHeld ?_; refine sk 19 hHeld ?_; refine sk 20 hHeld ?_; refine sk 21 hHeld ?_; refine sk 22 hHeld ?_
         refine tk 23 hHeld ?_; refine tk 24 hHeld ?_
         refine wpAnyH_done (by kernel_rfl) ?_ _
         refine NoPanic.normal ?_
         go_wp2_with fail
         go_meet
         case rel => exact ⟨by rw [HD.out], hY0⟩
     case rest =>
      obtain ⟨rfl, HBc⟩ := hcut
      have HXc : Hid (Blk wc nw [.slice (some ⟨Bt, 0, none⟩) n n, .slice (some ⟨Bc, 0, none⟩) n n]) := HXz.out.bel HBc.out
      have HBw : Hid (Bel w wc) := bel_step HB.out HBc.out
      cases dec
      ·have HA2 : Hid (miF f (rs.take (k + 1)) = a) := (by rw [HSt.out]; rfl : miF f (rs.take (k + 1)) = a)
       go_wp2
       go_roundw
       case rel => exact ⟨k + 1, a, by omega, rfl, rfl, by go_num, HA2, HXc, HBw⟩
       case measure => simp [intOf]; omega
      ·have HA2 : Hid (miF f (rs.take (k + 1)) = some (x, ⟨t + u, cc⟩)) := (by rw [HSt.out]; rfl : miF f (rs.take (k + 1)) = some (x, ⟨t + u, cc⟩))
       go_wp2
       go_roundw
       case rel => exact ⟨k + 1, some (x, ⟨t + u, cc⟩), by omega, rfl, rfl, by go_num, HA2, HXc, HBw⟩
       case measure => simp [intOf]; omega
  ·have e : rs.take k = rs := List.take_of_length_le (by rw [Hm.out]; omega)
   have HAQ : Hid (a = Q) := (by rw [← HA.out, e, HQ.out] : a = Q)
   have hge : ¬ (k : Int) < (m : Int) := by omega
   obtain ⟨av, Hav⟩ : ∃ q, Hid (chX a = q) := ⟨_, (rfl : chX a = _)⟩
   rw [Hav.out]
   rw [HAQ.out] at Hav
   go_wp2
   go_ret
   exact ⟨by rw [Hav.out]; rfl, HB.out⟩
end Go.Proofs.YtakedciemnkfhaaGreatDoor

namespace Go.Proofs.YtakedciemnkfhaaGreatDoor

/-- The path, once the first Road is chosen. -/
noncomputable def pthO (n : Nat) (g : GraphD) (d : Nat → Option Cst) : Option (Nat × Cst) → PthD
 | none => ⟨false, [], 0, 0⟩
 | some b => ⟨true, chR n g d b.2.c.toNat b.1, b.2.t, lnS g (chR n g d b.2.c.toNat b.1)⟩
theorem pthF_ne {n : Nat} {g : GraphD} {d : Nat → Option Cst} {s : Nat} {t : Int} (h : (s : Int) ≠ t) : pthF n g d s t = pthO n g d (miF d (bgF g.roads n true s)) := by
 unfold pthF
 rw [if_neg h]
 cases miF d (bgF g.roads n true s) <;> rfl
/-- What turning into a Road costs that goes on a best path; -1 for others. -/
noncomputable def exF (n : Nat) (g : GraphD) (d : Nat → Option Cst) (x y : Nat) : Int := if isN n g d x y = true then tnC g x y else -1
theorem exF_bd (n : Nat) (g : GraphD) (d : Nat → Option Cst) (x y : Nat) : -1 ≤ exF n g d x y ∧ exF n g d x y ≤ 20 := by
 have := tnC_bd g x y
 unfold exF
 split <;> omega
theorem stp_back (g : GraphD) (x y : Nat) : stpC true g y x = tnC g x y + (rdAt g x).time := rfl
theorem best_next {n : Nat} {g : GraphD} {d : Nat → Option Cst} {dl : List Cst} {x q : Nat} {c : Cst} (hd : mO n dl = d) (hx : d x = some c) (hq : (rdAt g x).to = (q : Int)) :
  chX (miF (chF dl (exF n g d x)) (bgF g.roads n true q)) = nxI (nxR n g d x) := by
 have hcg : ∀ y ∈ bgF g.roads n true q, chF dl (exF n g d x) y = if isN n g d x y = true then some (⟨c.t - (rdAt g x).time, c.c - 1⟩ : Cst) else none := fun y _ => by
  have hb := tnC_bd g x y
  by_cases hN : isN n g d x y = true
  ·rw [if_pos hN]
   obtain ⟨cy, h1, _, h3⟩ := isN_iff.1 hN
   rw [hx] at h3
   injection h3 with h3
   rw [← hd] at h1
   obtain ⟨_, h5, h6⟩ := mO_some.1 h1
   unfold chF exF
   rw [if_pos hN, h5, if_neg (by omega)]
   rw [stp_back] at h3
   congr 1
   refine Cst.ext' ?_ ?_
   ·have e : c.t = cy.t + (tnC g x y + (rdAt g x).time) := by rw [h3]; rfl
    show cy.t + tnC g x y = c.t - (rdAt g x).time
    omega
   ·have e : c.c = cy.c + 1 := by rw [h3]; rfl
    show cy.c = c.c - 1
    omega
  ·rw [if_neg hN]
   unfold chF exF
   rw [if_neg hN, if_pos (.inr (by decide))]
 rw [miF_congr hcg, miF_same (K := ⟨c.t - (rdAt g x).time, c.c - 1⟩) (fun y c' h => by
  split at h
  ·injection h with h; exact h.symm
  ·exact nomatch h)]
 unfold chX nxR
 rw [hq, Int.toNat_natCast, Option.map_map]
 congr 1
 rw [show (fun y => (if isN n g d x y = true then some (⟨c.t - (rdAt g x).time, c.c - 1⟩ : Cst) else none).isSome) = isN n g d x from by
  funext y
  cases isN n g d x y <;> rfl]
 cases (bgF g.roads n true q).find? (isN n g d x) <;> rfl
theorem best_first {n : Nat} {g : GraphD} {d : Nat → Option Cst} {dl : List Cst} {s : Nat} (hd : mO n dl = d) : miF (chF dl fun _ => 0) (bgF g.roads n true s) = miF d (bgF g.roads n true s) := by
 refine miF_congr fun y hy => ?_
 have hyn := bgF_mem hy
 rw [← hd]
 unfold chF mO
 by_cases h : 0 ≤ (cAt dl y).t
 ·rw [if_neg (fun hh => hh.elim (fun h1 => by omega) (fun h2 => by have h3 : (0 : Int) < 0 := h2; omega)), if_pos ⟨hyn, h⟩]
  congr 1
  exact Cst.ext' (by show _ + 0 = _; omega) rfl
 ·rw [if_pos (.inl (by omega)), if_neg (fun hh => h hh.2)]
theorem isN_model {n : Nat} {g : GraphD} {d : Nat → Option Cst} {dl : List Cst} {x y : Nat} {c : Cst} (hd : mO n dl = d) (hx : d x = some c) (hy : y < n) :
  isN n g d x y = (decide ((cAt dl y).c = c.c - 1) && (decide (0 ≤ tnB g x y) && (decide (0 ≤ (cAt dl y).t) && decide ((rdAt g x).time + tnB g x y + (cAt dl y).t = c.t)))) := by
 have hb := tnC_bd g x y
 have e : bnd (mkS n true) g y x = bP (inL g.bans (x : Int) (y : Int)) := rfl
 rw [Bool.eq_iff_iff, isN_iff]
 simp only [Bool.and_eq_true, decide_eq_true_eq]
 constructor
 ·rintro ⟨cy, h1, h2, h3⟩
  rw [hx] at h3
  injection h3 with h3
  rw [← hd] at h1
  obtain ⟨_, h5, h6⟩ := mO_some.1 h1
  rw [e] at h2
  rw [tnB_ok h2, h5]
  have e1 : c.t = cy.t + (tnC g x y + (rdAt g x).time) := by rw [h3]; rfl
  have e2 : c.c = cy.c + 1 := by rw [h3]; rfl
  exact ⟨by omega, by omega, h6, by omega⟩
 ·rintro ⟨h1, h2, h3, h4⟩
  cases hbn : bP (inL g.bans (x : Int) (y : Int)) with
  | true => rw [tnB_ban hbn] at h2; omega
  | false =>
   rw [tnB_ok hbn] at h4
   refine ⟨cAt dl y, by rw [← hd]; exact mO_some.2 ⟨hy, rfl, h3⟩, by rw [e]; exact hbn, ?_⟩
   rw [hx]
   congr 1
   exact Cst.ext' (by show c.t = (cAt dl y).t + (tnC g x y + (rdAt g x).time); omega) (by show c.c = (cAt dl y).c + 1; omega)
theorem exF_yes {n : Nat} {g : GraphD} {d : Nat → Option Cst} {x y : Nat} (h : isN n g d x y = true) : exF n g d x y = tnB g x y := by
 obtain ⟨cy, _, h2, _⟩ := isN_iff.1 h
 unfold exF
 rw [if_pos h, tnB_ok (by exact h2)]
theorem exF_no {n : Nat} {g : GraphD} {d : Nat → Option Cst} {x y : Nat} (h : isN n g d x y = false) : exF n g d x y = -1 := by
 unfold exF
 rw [if_neg (by rw [h]; decide)]
end Go.Proofs.YtakedciemnkfhaaGreatDoor
