/-
  The heap of a search's offers: the top is taken out: contracts.
-/
import Derived.Test.YtdlgehnoiaoneaaGreatDoorGA
import Derived.Test.YtdlgehnoiaoneaaGreatDoorGJ
namespace Go.Proofs.YtdlgehnoiaoneaaGreatDoor
open Go.RowKit Go.Maps

/-- The heap once a room at its top is filled. -/
structure SkOut (base P : Nat) (S : SrS) (vb vl vo vi : Value) (l : List OffD) (zs : List Nat) (x g : Nat) (w w' : World) : Prop where
 out : ∃ ys', SrP base S P w' vb vl vo vi ∧ SrO base w' vo l ∧ w'.ownsRow base 3 1 vi ys'.length (intsN ys') ∧ ys'.Perm (zs.set 0 x) ∧ Hp (okey l) ys' ∧ Frx (fun k => k ≠ g) w w'

set_option maxRecDepth 100000 in
set_option maxHeartbeats 8000000 in
theorem sink_any (base P : Nat) (S : SrS) (vb vl vo : Value) (g n cap : Nat) (l : List OffD) (zs0 : List Nat) (x0 : Nat) (w : World) (hP : SrP base S P w vb vl vo (.slice (some ⟨g, 0, none⟩) n cap)) (hO : SrO base w vo l) (hI : w.ownsRow base 3 1 (.slice (some ⟨g, 0, none⟩) n cap) n (intsN zs0)) (hz : zs0.length = n) (hn : 0 < n) (hk : okO l) (hy : ∀ y ∈ zs0, y < l.length) (hx : x0 < l.length) (hH : Dn (okey l) (zs0.set 0 x0) 0) (hm : l.length ≤ 100000000) (hnm : n ≤ 100000000) :
  Calls Tryz.prog 99 #[.pointer (some ⟨P, 12, none⟩), .int .i64 (x0 : Int)] w fun e w' => e = .returned (.tuple #[]) ∧ SkOut base P S vb vl vo (.slice (some ⟨g, 0, none⟩) n cap) l zs0 x0 g w w' := by
 have Hk : Hid (okO l) := hk
 have HZ0 : Hid (zs0.length = n) := hz
 have HH : Hid (Dn (okey l) (zs0.set 0 x0) 0) := hH
 obtain ⟨x, Hx0⟩ : ∃ x, x = x0 := ⟨_, rfl⟩
 have HIn0 : Hid (∀ y ∈ zs0.set 0 x0, y < l.length) := fun y h => by
  rcases List.mem_or_eq_of_mem_set h with h | h
  ·exact hy y h
  ·rw [h]; exact hx
 clear hk hz hH hy
 go_enter Tryz.func99, Tryz.ntmps99
 go_wp2
 go_loopw [4, 5] (fun iv _ wr => ∃ (i : Nat) (zs : List Nat), iv = .int .i64 i ∧ i < n ∧ Hid (zs.length = n) ∧ SrP base S P wr vb vl vo (.slice (some ⟨g, 0, none⟩) n cap) ∧ SrO base wr vo l ∧ wr.ownsRow base 3 1 (.slice (some ⟨g, 0, none⟩) n cap) n (intsN zs) ∧ Hid (Dn (okey l) (zs.set i x0) i) ∧ Hid ((zs.set i x0).Perm (zs0.set 0 x0)) ∧ Frx (fun t => t ≠ g) w wr) (fun iv _ _ => n - (intOf iv).toNat)
 case atStart => exact ⟨0, zs0, rfl, hn, HZ0, hP, hO, hI, HH, (List.Perm.refl _ : (zs0.set 0 x0).Perm (zs0.set 0 x0)), Frx.refl _ _⟩
 case round =>
  clear hP hO hI
  obtain ⟨i, zs, rfl, hi, HZ, hPr, hOr, hIr, HU, HPm, HFr⟩ := hrel
  subst Hx0
  have hiz : i < zs.length := by rw [HZ.out]; exact hi
  have hix : i < (zs.set i x).length := by rw [List.length_set]; exact hiz
  have s12 : wr.cell? ⟨P, 12, none⟩ = some (.slice (some ⟨g, 0, none⟩) n cap) := SrP.at hPr 12 (by omega)
  have s13 : wr.cell? ⟨P, 13, none⟩ = some (.func (.func 83) #[.pointer (some ⟨P, 0, none⟩)] #[]) := SrP.at hPr 13 (by omega)
  have sl := (SrP.lt hPr).2
  have gl := (hIr.lt g rfl).2
  have hne : g ≠ P := fun e => own_apart hIr hPr (by decide) (g := g) rfl (by rw [e]; rfl)
  have HIn : Hid (∀ c (h : c < zs.length), c ≠ i → zs[c] < l.length) := fun c h hc => by
   have h1 : c < (zs.set i x).length := by rw [List.length_set]; exact h
   have h2 := HIn0.out _ (HPm.out.mem_iff.1 (List.getElem_mem h1))
   rwa [List.getElem_set_ne (by omega)] at h2
  have HEnd : Hid (∀ w', Bel wr w' → (∀ (j : Nat) (hj : j < (zs.set i x).length), 0 < j → (j - 1) / 2 = i → okey l ((zs.set i x)[i]'hix) ≤ okey l (zs.set i x)[j]) → SkOut base P S vb vl vo (.slice (some ⟨g, 0, none⟩) n cap) l zs0 x g w (w'.setCell ⟨g, i, none⟩ (.int .i64 (x : Int)))) := fun w' hb hc => by
   have hI' := own_bel hIr hb
   have hlen : (zs.set i x).length = n := by rw [List.length_set]; exact HZ.out
   refine ⟨zs.set i x, own_setO (own_bel hPr hb) hI' (by decide) i _, own_setO (own_bel hOr hb) hI' (by decide) i _, ?_, HPm.out, HU.out.done hc, (HFr.trans (Frx.bel hb)).trans (Frx.stored (fun hh => hh rfl))⟩
   rw [hlen, intsN_set]
   exact (hI'.stored i _).1
  obtain ⟨c, Hc⟩ : ∃ c, Hid (2 * i + 1 = c) := ⟨_, (rfl : 2 * i + 1 = _)⟩
  have hci : c = 2 * i + 1 := Hc.out.symm
  have HcI : Hid (2 * (i : Int) + 1 = (c : Int)) := (by omega : 2 * (i : Int) + 1 = (c : Int))
  have hc0 : 0 < c := by omega
  have hcp : (c - 1) / 2 = i := by omega
  have hcm : c ≤ 200000001 := by omega
  have Hci : Hid (c = 2 * i + 1) := hci
  clear hci
  have hw1 : IntKind.i64.wrap ((c : Int) + 1) = (c : Int) + 1 := by rw [IntKind.wrap_i64]; omega
  have g0 : Bel wr wr := Bel.refl _
  have hS : ∀ w', Bel wr w' → w'.cell? ⟨P, 12, none⟩ = some (.slice (some ⟨g, 0, none⟩) n cap) ∧ w'.cell? ⟨P, 13, none⟩ = some (.func (.func 83) #[.pointer (some ⟨P, 0, none⟩)] #[]) := fun w' h => ⟨bel_cellM h sl s12, bel_cellM h sl s13⟩
  go_upto_region 2 with fail
  rw [HcI.out]
  by_cases hc1 : c + 1 < n
  rotate_left
  ·have hd1 : decide ((c : Int) + 1 < (n : Int)) = false := by simp; omega
   have hd1n : decide (c + 1 < n) = false := by simp; omega
   refine wp_region_noPanic ?_
   refine wp_region_held_drew (S := fun w' => Bel wr w') (by kernel_rfl) (Bel.drew g0) (fun hHeld => ?_)
   refine tk 0 hHeld ?_; refine tk 1 hHeld ?_; refine tk 2 hHeld ?_; refine tk 3 hHeld ?_; refine tk 4 hHeld ?_; refine tk 5 hHeld ?_
   refine tk 6 hHeld ?_; refine tk 7 hHeld ?_; refine tk 8 hHeld ?_; refine sk 9 hHeld ?_; refine sk 10 hHeld ?_; refine sk 11 hHeld ?_
   refine sk 12 hHeld ?_; refine sk 13 hHeld ?_; refine sk 14 hHeld ?_; refine sk 15 hHeld ?_; refine sk 16 hHeld ?_
   refine sk 17 hHeld ?_; refine sk 18 hHeld ?_; refine sk 19 hHeld ?_; refine sk 20 hHeld ?_; refine sk 21 hHeld ?_
   refine sk 22 hHeld ?_; refine sk 23 hHeld ?_; refine sk 24 hHeld ?_; refine sk 25 hHeld ?_; refine sk 26 hHeld ?_
   refine sk 27 hHeld ?_; refine sk 28 hHeld ?_; refine tk 29 hHeld ?_
   refine wpAnyH_done (by kernel_rfl) ?_ _
   refine NoPanic.normal ?_
   have hHc0 : Bel wr wr.drew := (Bel.refl _).drew
   clear hHeld
   by_cases hcn : c < n
   ·obtain ⟨wc, Hwc⟩ : ∃ wc, Hid (wr.drew = wc) := ⟨_, (rfl : wr.drew = _)⟩
    have hHc : Bel wr wc := by rw [← Hwc.out]; exact hHc0
    have hCz : c < zs.length := by rw [HZ.out]; exact hcn
    have hCp := hcp
    have HMin : Hid (∀ (j : Nat) (hj : j < (zs.set i x).length), 0 < j → (j - 1) / 2 = i → okey l ((zs.set i x)[c]'(by rw [List.length_set]; exact hCz)) ≤ okey l (zs.set i x)[j]) := fun j hj h0 hp => by
     have hj' : j < n := by rw [List.length_set, HZ.out] at hj; exact hj
     have := Hci.out
     obtain rfl : j = c := by omega
     exact Nat.le_refl _
    clear hS hHc0
    go_wp2
    rw [Hwc.out]
    have hCx : c < (zs.set i x).length := by rw [List.length_set]; exact hCz
    have HEc : Hid ((zs.set i x)[c] = zs[c]) := List.getElem_set_ne (by omega) _
    have hyl : zs[c] < l.length := HIn.out c hCz (by omega)
    have cc := intsN_at (own_bel hIr hHc) HZ.out hCz
    obtain ⟨y, Hy⟩ : ∃ y, Hid (zs[c] = y) := ⟨_, (rfl : zs[c] = _)⟩
    rw [Hy.out] at cc hyl
    obtain ⟨bb, Hbb⟩ : ∃ b, Hid (cLtB l[y].c l[x].c = b) := ⟨_, (rfl : cLtB l[y].c l[x].c = _)⟩
    have HKL : Hid (cLtB l[y].c l[x].c = decide (okey l y < okey l x)) := okey_lt Hk.out hyl hx
    have cA2 : ∀ w', Bel wc w' → Calls Tryz.prog 83 #[.pointer (some ⟨P, 0, none⟩), .int .i64 (y : Int), .int .i64 (x : Int)] w' fun e w'' => e = .returned (.bool bb) ∧ Bel w' w'' := fun w' h => by
     rw [← Hbb.out]
     exact ahead_any base P S vb vl vo _ l y x w' (own_bel hPr (bel_step hHc h)) (own_bel hOr (bel_step hHc h)) hyl hx hm
    have hScl := (SrP.lt (own_bel hPr hHc)).2
    have hScg := ((own_bel hIr hHc).lt g rfl).2
    have hS2 : ∀ w', Bel wc w' → w'.cell? ⟨P, 12, none⟩ = some (.slice (some ⟨g, 0, none⟩) n cap) ∧ w'.cell? ⟨P, 13, none⟩ = some (.func (.func 83) #[.pointer (some ⟨P, 0, none⟩)] #[]) ∧ w'.cell? ⟨g, c, none⟩ = some (.int .i64 (y : Int)) := fun w' h => ⟨SrP.at (own_bel hPr (bel_step hHc h)) 12 (by omega), SrP.at (own_bel hPr (bel_step hHc h)) 13 (by omega), bel_cellM h hScg cc⟩
    have hCI : (c : Int) < (n : Int) := by omega
    have hCd : decide ((n : Int) ≤ (c : Int)) = false := by simp; omega
    have hCdn : decide (n ≤ c) = false := by simp; omega
    have hCdm : c < n := by omega
    have g1 : Bel wc wc := Bel.refl _
    go_upto_region 4 with fail
    go_region_held3 (fun w' => Bel wc w') (with_reducible (repeat (first | assumption | exact g1 | refine Bel.drew ?_ | refine bel_then (by assumption) ?_)))
     ((go_at_call 83; refine (cA2 _ (by assumption)).mono ?_; rintro e wq ⟨rfl, hbk⟩))
    have hHq0 : Bel wc wq := by assumption
    have hHq : Bel wr wq := bel_step hHc hHq0
    have hPq := own_bel hPr hHq
    have hOq := own_bel hOr hHq
    have hIq := own_bel hIr hHq
    have t12 : wq.cell? ⟨P, 12, none⟩ = some (.slice (some ⟨g, 0, none⟩) n cap) := SrP.at hPq 12 (by omega)
    have tl := (SrP.lt hPq).2
    have tg := (hIq.lt g rfl).2
    have tj := intsN_at hIq HZ.out hiz
    have tq := intsN_at hIq HZ.out hCz
    rw [Hy.out] at tq
    have tf := hIq.frozenAt i
    clear hS2 cA2 cc hScl hScg
    cases bb
    ·have HE0 : Hid (SkOut base P S vb vl vo (.slice (some ⟨g, 0, none⟩) n cap) l zs0 x g w (wq.setCell ⟨g, i, none⟩ (.int .i64 (x : Int)))) := HEnd.out _ hHq (fun j hj h0 hp => by
      have h1 := HKL.out
      rw [Hbb.out] at h1
      have h2 := of_decide_eq_false h1.symm
      have h3 := HMin.out j hj h0 hp
      rw [HEc.out, Hy.out] at h3
      rw [List.getElem_set_self]
      omega)
     clear HEnd hPq hOq hIq hPr hOr hIr
     go_wp2
     go_end0
     exact ⟨rfl, HE0.out⟩
    ·have HSw : Hid ((zs.set i y).set c x = swp2 (zs.set i x) i c hix hCx) := (by
      unfold swp2
      rw [HEc.out, Hy.out, List.getElem_set_self, List.set_set] : (zs.set i y).set c x = swp2 (zs.set i x) i c hix hCx)
     have HU2 : Hid (Dn (okey l) ((zs.set i y).set c x) c) := (by
      rw [HSw.out]
      refine HU.out.step hCx (by omega) hCp ?_ HMin.out
      rw [List.getElem_set_self, HEc.out, Hy.out]
      have h1 := HKL.out
      rw [Hbb.out] at h1
      exact of_decide_eq_true h1.symm : Dn (okey l) ((zs.set i y).set c x) c)
     have HPm2 : Hid (((zs.set i y).set c x).Perm (zs0.set 0 x)) := (by
      rw [HSw.out]
      exact (swp2_perm hix hCx).trans HPm.out : ((zs.set i y).set c x).Perm (zs0.set 0 x))
     have HZ2 : Hid ((zs.set i y).length = n) := (by rw [List.length_set]; exact HZ.out : (zs.set i y).length = n)
     have HP4 : Hid (SrP base S P (wq.setCell ⟨g, i, none⟩ (.int .i64 (y : Int))).drew vb vl vo (.slice (some ⟨g, 0, none⟩) n cap)) := own_setO hPq hIq (by decide) i _
     have HO4 : Hid (SrO base (wq.setCell ⟨g, i, none⟩ (.int .i64 (y : Int))).drew vo l) := own_setO hOq hIq (by decide) i _
     have HI4 : Hid ((wq.setCell ⟨g, i, none⟩ (.int .i64 (y : Int))).drew.ownsRow base 3 1 (.slice (some ⟨g, 0, none⟩) n cap) n (intsN (zs.set i y))) := (by
      rw [intsN_set]
      exact (hIq.stored i _).1 : (wq.setCell ⟨g, i, none⟩ (.int .i64 (y : Int))).ownsRow base 3 1 (.slice (some ⟨g, 0, none⟩) n cap) n (intsN (zs.set i y)))
     have HF4 : Hid (Frx (fun t => t ≠ g) w (wq.setCell ⟨g, i, none⟩ (.int .i64 (y : Int))).drew) := ((HFr.trans (Frx.bel hHq)).trans (Frx.stored (fun hh => hh rfl))).trans (Frx.bel (Bel.refl _).drew)
     clear HEnd hPq hOq hIq hPr hOr hIr
     go_upto_region 5 with fail
     go_big_region
     go_wp2
     go_roundw
     case rel => exact ⟨c, zs.set i y, by first | rfl | go_num, by omega, HZ2, HP4.out, HO4.out, HI4.out, HU2, HPm2, HF4.out⟩
     case measure => simp [intOf]; omega
   ·have HE0 : Hid (SkOut base P S vb vl vo (.slice (some ⟨g, 0, none⟩) n cap) l zs0 x g w (wr.drew.drew.setCell ⟨g, i, none⟩ (.int .i64 (x : Int)))) := HEnd.out _ hHc0.drew (fun j hj h0 hp => by
     have hj' : j < n := by rw [List.length_set, HZ.out] at hj; exact hj
     have := Hci.out
     omega)
    have hd2 : decide ((n : Int) ≤ (c : Int)) = true := by simp; omega
    have hd2n : decide (n ≤ c) = true := by simp; omega
    have hd2m : n ≤ c := by omega
    have tj := intsN_at hIr HZ.out hiz
    have tf := hIr.frozenAt i
    have g2 : Bel wr wr.drew.drew := hHc0.drew
    clear HEnd
    go_upto_region 4 with fail
    refine wp_region_noPanic ?_
    refine wp_region_held_drew (S := fun w' => Bel wr w') (by kernel_rfl) (g2) (fun hHeld => ?_)
    refine tk 0 hHeld ?_; refine tk 1 hHeld ?_; refine tk 2 hHeld ?_; refine tk 3 hHeld ?_; refine tk 4 hHeld ?_; refine tk 5 hHeld ?_
    refine tk 6 hHeld ?_; refine tk 7 hHeld ?_; refine sk 8 hHeld ?_; refine sk 9 hHeld ?_; refine sk 10 hHeld ?_; refine sk 11 hHeld ?_
    refine sk 12 hHeld ?_; refine sk 13 hHeld ?_; refine sk 14 hHeld ?_; refine sk 15 hHeld ?_; refine sk 16 hHeld ?_
    refine sk 17 hHeld ?_; refine sk 18 hHeld ?_; refine sk 19 hHeld ?_; refine sk 20 hHeld ?_; refine sk 21 hHeld ?_
    refine tk 22 hHeld ?_
    refine wpAnyH_done (by kernel_rfl) ?_ _
    refine NoPanic.normal ?_
    clear hHeld hS hPr hOr hIr
    go_wp2
    go_end0
    exact ⟨rfl, HE0.out⟩
  ·have hc1z : c + 1 < zs.length := by rw [HZ.out]; exact hc1
   have hcz : c < zs.length := by omega
   have ca := intsN_at hIr HZ.out hc1z
   have cb := intsN_at hIr HZ.out hcz
   have hal := HIn.out (c + 1) hc1z (by omega)
   have hbl := HIn.out c hcz (by omega)
   obtain ⟨ya, Hya⟩ : ∃ y, Hid (zs[c + 1] = y) := ⟨_, (rfl : zs[c + 1] = _)⟩
   obtain ⟨yb, Hyb⟩ : ∃ y, Hid (zs[c] = y) := ⟨_, (rfl : zs[c] = _)⟩
   rw [Hya.out] at ca hal
   rw [Hyb.out] at cb hbl
   obtain ⟨b1, Hb1⟩ : ∃ b, Hid (cLtB l[ya].c l[yb].c = b) := ⟨_, (rfl : cLtB l[ya].c l[yb].c = _)⟩
   have HK1 : Hid (cLtB l[ya].c l[yb].c = decide (okey l ya < okey l yb)) := okey_lt Hk.out hal hbl
   have cA1 : ∀ w', Bel wr w' → Calls Tryz.prog 83 #[.pointer (some ⟨P, 0, none⟩), .int .i64 (ya : Int), .int .i64 (yb : Int)] w' fun e w'' => e = .returned (.bool b1) ∧ Bel w' w'' := fun w' h => by
    rw [← Hb1.out]
    exact ahead_any base P S vb vl vo _ l ya yb w' (own_bel hPr h) (own_bel hOr h) hal hbl hm
   have hS1 : ∀ w', Bel wr w' → w'.cell? ⟨g, c + 1, none⟩ = some (.int .i64 (ya : Int)) ∧ w'.cell? ⟨g, c, none⟩ = some (.int .i64 (yb : Int)) := fun w' h => ⟨bel_cellM h gl ca, bel_cellM h gl cb⟩
   have hd1 : decide ((c : Int) + 1 < (n : Int)) = true := by simp; omega
   have hd1n : decide (c + 1 < n) = true := by simp; omega
   have hI1 : (c : Int) + 1 < (n : Int) := by omega
   have hI2 : (c : Int) < (n : Int) := by omega
   have hI0 : (0 : Int) ≤ (c : Int) + 1 := by omega
   go_region_held3 (fun w' => Bel wr w') (with_reducible (repeat (first | assumption | exact g0 | refine Bel.drew ?_ | refine bel_then (by assumption) ?_)))
    ((go_at_call 83; refine (cA1 _ (by assumption)).mono ?_; rintro e wc ⟨rfl, hbk⟩))
   have hHc : Bel wr wc := by assumption
   clear hS hS1 cA1 ca cb s12 s13 sl gl
   cases b1
   ·have hCz := hcz
    have hCp := hcp
    have HMin : Hid (∀ (j : Nat) (hj : j < (zs.set i x).length), 0 < j → (j - 1) / 2 = i → okey l ((zs.set i x)[c]'(by rw [List.length_set]; exact hCz)) ≤ okey l (zs.set i x)[j]) := fun j hj h0 hp => by
     have e := Hci.out
     rcases (show j = c ∨ j = c + 1 by omega) with rfl | rfl
     ·exact Nat.le_refl _
     ·rw [List.getElem_set_ne (by omega), List.getElem_set_ne (by omega), Hya.out, Hyb.out]
      have h1 := HK1.out
      rw [Hb1.out] at h1
      have := of_decide_eq_false h1.symm
      omega
    go_wp2
    have hCx : c < (zs.set i x).length := by rw [List.length_set]; exact hCz
    have HEc : Hid ((zs.set i x)[c] = zs[c]) := List.getElem_set_ne (by omega) _
    have hyl : zs[c] < l.length := HIn.out c hCz (by omega)
    have cc := intsN_at (own_bel hIr hHc) HZ.out hCz
    obtain ⟨y, Hy⟩ : ∃ y, Hid (zs[c] = y) := ⟨_, (rfl : zs[c] = _)⟩
    rw [Hy.out] at cc hyl
    obtain ⟨bb, Hbb⟩ : ∃ b, Hid (cLtB l[y].c l[x].c = b) := ⟨_, (rfl : cLtB l[y].c l[x].c = _)⟩
    have HKL : Hid (cLtB l[y].c l[x].c = decide (okey l y < okey l x)) := okey_lt Hk.out hyl hx
    have cA2 : ∀ w', Bel wc w' → Calls Tryz.prog 83 #[.pointer (some ⟨P, 0, none⟩), .int .i64 (y : Int), .int .i64 (x : Int)] w' fun e w'' => e = .returned (.bool bb) ∧ Bel w' w'' := fun w' h => by
     rw [← Hbb.out]
     exact ahead_any base P S vb vl vo _ l y x w' (own_bel hPr (bel_step hHc h)) (own_bel hOr (bel_step hHc h)) hyl hx hm
    have hScl := (SrP.lt (own_bel hPr hHc)).2
    have hScg := ((own_bel hIr hHc).lt g rfl).2
    have hS2 : ∀ w', Bel wc w' → w'.cell? ⟨P, 12, none⟩ = some (.slice (some ⟨g, 0, none⟩) n cap) ∧ w'.cell? ⟨P, 13, none⟩ = some (.func (.func 83) #[.pointer (some ⟨P, 0, none⟩)] #[]) ∧ w'.cell? ⟨g, c, none⟩ = some (.int .i64 (y : Int)) := fun w' h => ⟨SrP.at (own_bel hPr (bel_step hHc h)) 12 (by omega), SrP.at (own_bel hPr (bel_step hHc h)) 13 (by omega), bel_cellM h hScg cc⟩
    have hCI : (c : Int) < (n : Int) := by omega
    have hCd : decide ((n : Int) ≤ (c : Int)) = false := by simp; omega
    have hCdn : decide (n ≤ c) = false := by simp; omega
    have hCdm : c < n := by omega
    have g1 : Bel wc wc := Bel.refl _
    go_upto_region 4 with fail
    go_region_held3 (fun w' => Bel wc w') (with_reducible (repeat (first | assumption | exact g1 | refine Bel.drew ?_ | refine bel_then (by assumption) ?_)))
     ((go_at_call 83; refine (cA2 _ (by assumption)).mono ?_; rintro e wq ⟨rfl, hbk⟩))
    have hHq0 : Bel wc wq := by assumption
    have hHq : Bel wr wq := bel_step hHc hHq0
    have hPq := own_bel hPr hHq
    have hOq := own_bel hOr hHq
    have hIq := own_bel hIr hHq
    have t12 : wq.cell? ⟨P, 12, none⟩ = some (.slice (some ⟨g, 0, none⟩) n cap) := SrP.at hPq 12 (by omega)
    have tl := (SrP.lt hPq).2
    have tg := (hIq.lt g rfl).2
    have tj := intsN_at hIq HZ.out hiz
    have tq := intsN_at hIq HZ.out hCz
    rw [Hy.out] at tq
    have tf := hIq.frozenAt i
    clear hS2 cA2 cc hScl hScg
    cases bb
    ·have HE0 : Hid (SkOut base P S vb vl vo (.slice (some ⟨g, 0, none⟩) n cap) l zs0 x g w (wq.setCell ⟨g, i, none⟩ (.int .i64 (x : Int)))) := HEnd.out _ hHq (fun j hj h0 hp => by
      have h1 := HKL.out
      rw [Hbb.out] at h1
      have h2 := of_decide_eq_false h1.symm
      have h3 := HMin.out j hj h0 hp
      rw [HEc.out, Hy.out] at h3
      rw [List.getElem_set_self]
      omega)
     clear HEnd hPq hOq hIq hPr hOr hIr
     go_wp2
     go_end0
     exact ⟨rfl, HE0.out⟩
    ·have HSw : Hid ((zs.set i y).set c x = swp2 (zs.set i x) i c hix hCx) := (by
      unfold swp2
      rw [HEc.out, Hy.out, List.getElem_set_self, List.set_set] : (zs.set i y).set c x = swp2 (zs.set i x) i c hix hCx)
     have HU2 : Hid (Dn (okey l) ((zs.set i y).set c x) c) := (by
      rw [HSw.out]
      refine HU.out.step hCx (by omega) hCp ?_ HMin.out
      rw [List.getElem_set_self, HEc.out, Hy.out]
      have h1 := HKL.out
      rw [Hbb.out] at h1
      exact of_decide_eq_true h1.symm : Dn (okey l) ((zs.set i y).set c x) c)
     have HPm2 : Hid (((zs.set i y).set c x).Perm (zs0.set 0 x)) := (by
      rw [HSw.out]
      exact (swp2_perm hix hCx).trans HPm.out : ((zs.set i y).set c x).Perm (zs0.set 0 x))
     have HZ2 : Hid ((zs.set i y).length = n) := (by rw [List.length_set]; exact HZ.out : (zs.set i y).length = n)
     have HP4 : Hid (SrP base S P (wq.setCell ⟨g, i, none⟩ (.int .i64 (y : Int))).drew vb vl vo (.slice (some ⟨g, 0, none⟩) n cap)) := own_setO hPq hIq (by decide) i _
     have HO4 : Hid (SrO base (wq.setCell ⟨g, i, none⟩ (.int .i64 (y : Int))).drew vo l) := own_setO hOq hIq (by decide) i _
     have HI4 : Hid ((wq.setCell ⟨g, i, none⟩ (.int .i64 (y : Int))).drew.ownsRow base 3 1 (.slice (some ⟨g, 0, none⟩) n cap) n (intsN (zs.set i y))) := (by
      rw [intsN_set]
      exact (hIq.stored i _).1 : (wq.setCell ⟨g, i, none⟩ (.int .i64 (y : Int))).ownsRow base 3 1 (.slice (some ⟨g, 0, none⟩) n cap) n (intsN (zs.set i y)))
     have HF4 : Hid (Frx (fun t => t ≠ g) w (wq.setCell ⟨g, i, none⟩ (.int .i64 (y : Int))).drew) := ((HFr.trans (Frx.bel hHq)).trans (Frx.stored (fun hh => hh rfl))).trans (Frx.bel (Bel.refl _).drew)
     clear HEnd hPq hOq hIq hPr hOr hIr
     go_upto_region 5 with fail
     go_big_region
     go_wp2
     go_roundw
     case rel => exact ⟨c, zs.set i y, by first | rfl | go_num, by omega, HZ2, HP4.out, HO4.out, HI4.out, HU2, HPm2, HF4.out⟩
     case measure => simp [intOf]; omega
   ·obtain ⟨d, Hd⟩ : ∃ d, Hid (c + 1 = d) := ⟨_, (rfl : c + 1 = _)⟩
    have hCz : d < zs.length := by rw [← Hd.out]; exact hc1z
    have hCp : (d - 1) / 2 = i := by have := Hd.out; have := Hci.out; omega
    have hdc : c < d := by have := Hd.out; omega
    have hdn : d < n := by have := Hd.out; omega
    have hdi : i < d := by have := Hd.out; have := Hci.out; omega
    have HdI : Hid ((c : Int) + 1 = (d : Int)) := (by have := Hd.out; omega : (c : Int) + 1 = (d : Int))
    have HMin : Hid (∀ (j : Nat) (hj : j < (zs.set i x).length), 0 < j → (j - 1) / 2 = i → okey l ((zs.set i x)[d]'(by rw [List.length_set]; exact hCz)) ≤ okey l (zs.set i x)[j]) := fun j hj h0 hp => by
     have e := Hci.out
     have e2 := Hd.out
     subst e2
     rcases (show j = c ∨ j = c + 1 by omega) with rfl | rfl
     ·rw [List.getElem_set_ne (by omega), List.getElem_set_ne (by omega), Hya.out, Hyb.out]
      have h1 := HK1.out
      rw [Hb1.out] at h1
      have := of_decide_eq_true h1.symm
      omega
     ·exact Nat.le_refl _
    go_upto_region 4 with fail
    rw [HdI.out]
    have hCx : d < (zs.set i x).length := by rw [List.length_set]; exact hCz
    have HEc : Hid ((zs.set i x)[d] = zs[d]) := List.getElem_set_ne (by omega) _
    have hyl : zs[d] < l.length := HIn.out d hCz (by omega)
    have cc := intsN_at (own_bel hIr hHc) HZ.out hCz
    obtain ⟨y, Hy⟩ : ∃ y, Hid (zs[d] = y) := ⟨_, (rfl : zs[d] = _)⟩
    rw [Hy.out] at cc hyl
    obtain ⟨bb, Hbb⟩ : ∃ b, Hid (cLtB l[y].c l[x].c = b) := ⟨_, (rfl : cLtB l[y].c l[x].c = _)⟩
    have HKL : Hid (cLtB l[y].c l[x].c = decide (okey l y < okey l x)) := okey_lt Hk.out hyl hx
    have cA2 : ∀ w', Bel wc w' → Calls Tryz.prog 83 #[.pointer (some ⟨P, 0, none⟩), .int .i64 (y : Int), .int .i64 (x : Int)] w' fun e w'' => e = .returned (.bool bb) ∧ Bel w' w'' := fun w' h => by
     rw [← Hbb.out]
     exact ahead_any base P S vb vl vo _ l y x w' (own_bel hPr (bel_step hHc h)) (own_bel hOr (bel_step hHc h)) hyl hx hm
    have hScl := (SrP.lt (own_bel hPr hHc)).2
    have hScg := ((own_bel hIr hHc).lt g rfl).2
    have hS2 : ∀ w', Bel wc w' → w'.cell? ⟨P, 12, none⟩ = some (.slice (some ⟨g, 0, none⟩) n cap) ∧ w'.cell? ⟨P, 13, none⟩ = some (.func (.func 83) #[.pointer (some ⟨P, 0, none⟩)] #[]) ∧ w'.cell? ⟨g, d, none⟩ = some (.int .i64 (y : Int)) := fun w' h => ⟨SrP.at (own_bel hPr (bel_step hHc h)) 12 (by omega), SrP.at (own_bel hPr (bel_step hHc h)) 13 (by omega), bel_cellM h hScg cc⟩
    have hCI : (d : Int) < (n : Int) := by omega
    have hCd : decide ((n : Int) ≤ (d : Int)) = false := by simp; omega
    have hCdn : decide (n ≤ d) = false := by simp; omega
    have hCdm : d < n := by omega
    have g1 : Bel wc wc := Bel.refl _
    go_region_held3 (fun w' => Bel wc w') (with_reducible (repeat (first | assumption | exact g1 | refine Bel.drew ?_ | refine bel_then (by assumption) ?_)))
     ((go_at_call 83; refine (cA2 _ (by assumption)).mono ?_; rintro e wq ⟨rfl, hbk⟩))
    have hHq0 : Bel wc wq := by assumption
    have hHq : Bel wr wq := bel_step hHc hHq0
    have hPq := own_bel hPr hHq
    have hOq := own_bel hOr hHq
    have hIq := own_bel hIr hHq
    have t12 : wq.cell? ⟨P, 12, none⟩ = some (.slice (some ⟨g, 0, none⟩) n cap) := SrP.at hPq 12 (by omega)
    have tl := (SrP.lt hPq).2
    have tg := (hIq.lt g rfl).2
    have tj := intsN_at hIq HZ.out hiz
    have tq := intsN_at hIq HZ.out hCz
    rw [Hy.out] at tq
    have tf := hIq.frozenAt i
    clear hS2 cA2 cc hScl hScg
    cases bb
    ·have HE0 : Hid (SkOut base P S vb vl vo (.slice (some ⟨g, 0, none⟩) n cap) l zs0 x g w (wq.setCell ⟨g, i, none⟩ (.int .i64 (x : Int)))) := HEnd.out _ hHq (fun j hj h0 hp => by
      have h1 := HKL.out
      rw [Hbb.out] at h1
      have h2 := of_decide_eq_false h1.symm
      have h3 := HMin.out j hj h0 hp
      rw [HEc.out, Hy.out] at h3
      rw [List.getElem_set_self]
      omega)
     clear HEnd hPq hOq hIq hPr hOr hIr
     go_wp2
     go_end0
     exact ⟨rfl, HE0.out⟩
    ·have HSw : Hid ((zs.set i y).set d x = swp2 (zs.set i x) i d hix hCx) := (by
      unfold swp2
      rw [HEc.out, Hy.out, List.getElem_set_self, List.set_set] : (zs.set i y).set d x = swp2 (zs.set i x) i d hix hCx)
     have HU2 : Hid (Dn (okey l) ((zs.set i y).set d x) d) := (by
      rw [HSw.out]
      refine HU.out.step hCx (by omega) hCp ?_ HMin.out
      rw [List.getElem_set_self, HEc.out, Hy.out]
      have h1 := HKL.out
      rw [Hbb.out] at h1
      exact of_decide_eq_true h1.symm : Dn (okey l) ((zs.set i y).set d x) d)
     have HPm2 : Hid (((zs.set i y).set d x).Perm (zs0.set 0 x)) := (by
      rw [HSw.out]
      exact (swp2_perm hix hCx).trans HPm.out : ((zs.set i y).set d x).Perm (zs0.set 0 x))
     have HZ2 : Hid ((zs.set i y).length = n) := (by rw [List.length_set]; exact HZ.out : (zs.set i y).length = n)
     have HP4 : Hid (SrP base S P (wq.setCell ⟨g, i, none⟩ (.int .i64 (y : Int))).drew vb vl vo (.slice (some ⟨g, 0, none⟩) n cap)) := own_setO hPq hIq (by decide) i _
     have HO4 : Hid (SrO base (wq.setCell ⟨g, i, none⟩ (.int .i64 (y : Int))).drew vo l) := own_setO hOq hIq (by decide) i _
     have HI4 : Hid ((wq.setCell ⟨g, i, none⟩ (.int .i64 (y : Int))).drew.ownsRow base 3 1 (.slice (some ⟨g, 0, none⟩) n cap) n (intsN (zs.set i y))) := (by
      rw [intsN_set]
      exact (hIq.stored i _).1 : (wq.setCell ⟨g, i, none⟩ (.int .i64 (y : Int))).ownsRow base 3 1 (.slice (some ⟨g, 0, none⟩) n cap) n (intsN (zs.set i y)))
     have HF4 : Hid (Frx (fun t => t ≠ g) w (wq.setCell ⟨g, i, none⟩ (.int .i64 (y : Int))).drew) := ((HFr.trans (Frx.bel hHq)).trans (Frx.stored (fun hh => hh rfl))).trans (Frx.bel (Bel.refl _).drew)
     clear HEnd hPq hOq hIq hPr hOr hIr
     go_upto_region 5 with fail
     go_big_region
     go_wp2
     go_roundw
     case rel => exact ⟨d, zs.set i y, by first | rfl | go_num, by omega, HZ2, HP4.out, HO4.out, HI4.out, HU2, HPm2, HF4.out⟩
     case measure => simp [intOf]; omega
theorem own_short {w : World} {base : Nat} {e : TypeId} {g m cap : Nat} {xs : List Value} (h : w.ownsRow base e 1 (.slice (some ⟨g, 0, none⟩) (m + 1) cap) (m + 1) xs) : w.ownsRow base e 1 (.slice (some ⟨g, 0, none⟩) m cap) m (xs.take m) := by
 rcases h.2 with ⟨h', _⟩ | ⟨g', cap', cur, h', hb, hg, hnc, hcm, hcs, htake⟩
 ·simp at h'
 ·simp only [Value.slice.injEq, Option.some.injEq, Addr.mk.injEq, and_true, true_and] at h'
  obtain ⟨rfl, rfl⟩ := h'
  refine ⟨?_, .inr ⟨g, cap, cur, rfl, hb, hg, by omega, hcm, hcs, ?_⟩⟩
  ·rw [List.length_take, h.1]; omega
  ·rw [← htake, List.take_take]; congr 1; omega
/-- The heap without its top. -/
structure PpOut (base P : Nat) (S : SrS) (vb vl vo vi : Value) (l : List OffD) (ys : List Nat) (top : Nat) (w w' : World) : Prop where
 out : ∃ vi' ys', SrP base S P w' vb vl vo vi' ∧ SrO base w' vo l ∧ w'.ownsRow base 3 1 vi' ys'.length (intsN ys') ∧ (top :: ys').Perm ys ∧ Hp (okey l) ys' ∧ Frx (fun k => k ≠ P ∧ some k ≠ vi.ownBlock) w w' ∧ vi'.ownBlock = vi.ownBlock

set_option maxRecDepth 100000 in
set_option maxHeartbeats 4000000 in
theorem pop_any (base P : Nat) (S : SrS) (vb vl vo vi : Value) (l : List OffD) (ys : List Nat) (w : World) (hP : SrP base S P w vb vl vo vi) (hO : SrO base w vo l) (hI : w.ownsRow base 3 1 vi ys.length (intsN ys)) (h0 : 0 < ys.length) (hk : okO l) (hy : ∀ y ∈ ys, y < l.length) (hH : Hp (okey l) ys) (hm : l.length ≤ 100000000) (hym : ys.length ≤ 100000000) :
  Calls Tryz.prog 93 #[.pointer (some ⟨P, 12, none⟩)] w fun e w' => e = .returned (.int .i64 (ys[0] : Int)) ∧ PpOut base P S vb vl vo vi l ys ys[0] w w' := by
 obtain ⟨m, HK⟩ : ∃ m, Hid (ys.length = m + 1) := ⟨ys.length - 1, (by omega : ys.length = ys.length - 1 + 1)⟩
 obtain ⟨g, cap, rfl, _, _⟩ := own_in hI h0
 rw [HK.out] at hI hym hP
 have Hk : Hid (okO l) := hk
 have HY : Hid (∀ y ∈ ys, y < l.length) := hy
 have HH : Hid (Hp (okey l) ys) := hH
 have hml : m < ys.length := by rw [HK.out]; omega
 have s12 : w.cell? ⟨P, 12, none⟩ = some (.slice (some ⟨g, 0, none⟩) (m + 1) cap) := SrP.at hP 12 (by omega)
 have f12 : w.frozen? ⟨P, 12, none⟩ = false := World.ownsRow.frozenAt hP 12
 have sl := (SrP.lt hP).2
 have gl := (hI.lt g rfl).2
 have c0 := intsN_at hI HK.out h0
 have cm := intsN_at hI HK.out hml
 have hcap : m + 1 ≤ cap := by
  rcases hI.2 with ⟨h', _⟩ | ⟨g', cap', cur, h', _, _, hnc, _⟩
  ·simp at h'
  ·simp only [Value.slice.injEq, Option.some.injEq, Addr.mk.injEq, and_true, true_and] at h'
   obtain ⟨rfl, rfl⟩ := h'
   exact hnc
 obtain ⟨top, Ht⟩ : ∃ y, Hid (ys[0] = y) := ⟨_, (rfl : ys[0] = _)⟩
 obtain ⟨x, Hx⟩ : ∃ y, Hid (ys[m] = y) := ⟨_, (rfl : ys[m] = _)⟩
 rw [Ht.out] at c0 ⊢
 rw [Hx.out] at cm
 rw [HK.out]
 have hI2 : (m : Int) < ((m + 1 : Nat) : Int) := by omega
 have hI3 : (m : Int) < (m : Int) + 1 := by omega
 have hI4 : (0 : Int) < (m : Int) + 1 := by omega
 have hI5 : (m : Int) ≤ (cap : Int) := by omega
 have hI6 : m ≤ cap := by omega
 obtain ⟨w2, Hw2⟩ : ∃ W, Hid (W = w.setCell ⟨P, 12, none⟩ (.slice (some ⟨g, 0, none⟩) m cap)) := ⟨_, (rfl : w.setCell ⟨P, 12, none⟩ (.slice (some ⟨g, 0, none⟩) m cap) = _)⟩
 have hP2 : SrP base S P w2 vb vl vo (.slice (some ⟨g, 0, none⟩) m cap) := by rw [Hw2.out]; exact SrP.set hP _
 have hO2 : SrO base w2 vo l := by rw [Hw2.out]; exact own_setO hO hP (by decide) 12 _
 have hI2' : w2.ownsRow base 3 1 (.slice (some ⟨g, 0, none⟩) m cap) m (intsN (ys.take m)) := by
  rw [Hw2.out]
  have h := own_short (own_setO hI hP (by decide) 12 (.slice (some ⟨g, 0, none⟩) m cap))
  unfold intsN at h ⊢
  rw [List.map_take]
  exact h
 have HF2 : Hid (Frx (fun t => t ≠ P ∧ some t ≠ (Value.slice (some ⟨g, 0, none⟩) (m + 1) cap).ownBlock) w w2) := (by rw [Hw2.out]; exact Frx.stored (fun hh => hh.1 rfl) : Frx (fun t => t ≠ P ∧ some t ≠ (Value.slice (some ⟨g, 0, none⟩) (m + 1) cap).ownBlock) w w2)
 have HTL : Hid ((ys.take m).length = m) := (by rw [List.length_take]; omega : (ys.take m).length = m)
 clear hP hO hI hk hy hH
 go_enter Tryz.func93, Tryz.ntmps93
 go_upto_region 5 with fail
 rw [← Hw2.out]
 by_cases hm0 : m = 0
 ·subst hm0
  have HE : Hid (PpOut base P S vb vl vo (.slice (some ⟨g, 0, none⟩) (0 + 1) cap) l ys top w w2) := ⟨⟨.slice (some ⟨g, 0, none⟩) 0 cap, [], hP2, hO2, hI2', by
   have h1 := HK.out
   have h2 := Ht.out
   match ys, h1 with
   | [a], _ => simp at h2; rw [h2], (fun j hj _ => nomatch hj), HF2.out, rfl⟩⟩
  clear hP2 hO2 hI2'
  go_wp2
  go_ret
  exact ⟨rfl, HE.out⟩
 ·have hd : decide ((0 : Int) < (m : Int)) = true := by simp; omega
  have hdn : decide (0 < m) = true := by simp; omega
  have hxl : x < l.length := by rw [← Hx.out]; exact HY.out _ (List.getElem_mem hml)
  have HD : Hid (Dn (okey l) ((ys.take m).set 0 x) 0) := (by rw [← Hx.out]; exact Dn.start HH.out m HK.out.symm (by omega) : Dn (okey l) ((ys.take m).set 0 x) 0)
  have HPp : Hid ((top :: (ys.take m).set 0 x).Perm ys) := (by rw [← Hx.out, ← Ht.out]; exact pop_perm m HK.out.symm (by omega) : (top :: (ys.take m).set 0 x).Perm ys)
  go_wp2_with fail
  refine (sink_any base P S vb vl vo g m cap l (ys.take m) x w2 hP2 hO2 hI2' HTL.out (by omega) Hk.out (fun y h => HY.out y (List.mem_of_mem_take h)) hxl HD.out hm (by omega)).mono ?_
  rintro e w3 ⟨rfl, h3⟩
  have HE : Hid (PpOut base P S vb vl vo (.slice (some ⟨g, 0, none⟩) (m + 1) cap) l ys top w w3) := (by
   obtain ⟨ys', h1, h2, h3, h4, h5, h6⟩ := h3.out
   exact ⟨⟨.slice (some ⟨g, 0, none⟩) m cap, ys', h1, h2, h3, (h4.cons top).trans HPp.out, h5, HF2.out.trans2 h6 (fun t _ hX e => hX.2 (by rw [e]; rfl)), rfl⟩⟩ : PpOut base P S vb vl vo (.slice (some ⟨g, 0, none⟩) (m + 1) cap) l ys top w w3)
  clear hP2 hO2 hI2' h3
  go_wp2
  go_ret
  exact ⟨rfl, HE.out⟩
end Go.Proofs.YtdlgehnoiaoneaaGreatDoor
