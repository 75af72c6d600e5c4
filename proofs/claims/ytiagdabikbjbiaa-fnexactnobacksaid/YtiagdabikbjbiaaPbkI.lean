/-
  Turns back at a place, in the program: contract of putBack.
-/
import Derived.Test.YtiagdabikbjbiaaNobM
import Derived.Test.YtiagdabikbjbiaaXD
import Derived.Deep.QuietTactic
namespace Go.Proofs.Ytiagdabikbjbiaa
open Go.RowKit Go.Maps

set_option maxRecDepth 100000 in
set_option maxHeartbeats 4000000 in
theorem putBack_any (lo Bb Be M : Nat) (V : Bool → Nat → Value) (a0 : Option Addr) (n0 c0 : Nat) (a1 : Option Addr) (n1 c1 : Nat) (a2 : Option Addr) (k2 c2 : Nat) (rs : List RoadD) (L0 : List BanD) (b1 : List Nat) (x p : Nat) (w : World) (hT : Tabs lo w (fun t => cond t Bb Be) n0 V (bgF rs n1)) (hS : BX w M L0) (h0 : L0.length ≤ 2001) (t1 : RoadL w a1 rs b1) (e1 : rs.length = n1) (_ : n0 ≤ 5000) (hm : n1 ≤ 8000) (hM : M < lo) (hneB : Bb ≠ M) (hMb : M ∉ b1) (hx : x < n1) (hp : p < n0) (hxp : ∀ h : x < rs.length, rs[x].to = (p : Int)) :
    Calls Try.prog 66 #[.agg #[.slice a0 n0 c0, .slice a1 n1 c1, .slice a2 k2 c2, .slice (some ⟨Bb, 0, none⟩) n0 n0, .slice (some ⟨Be, 0, none⟩) n0 n0, .map (some M)], .int .i64 x] w
      fun e w' => e = .returned (.bool (goes rs x (bgF rs n1 true p))) ∧ BX w' M (bkL rs x L0 (bgF rs n1 true p)) ∧ w.grownBy w' (some M) := by
  have HE1 : Hid (rs.length = n1) := e1
  have HneB : Hid (Bb ≠ M) := hneB
  have hxl : x < rs.length := by rw [e1]; exact hx
  have hxp := hxp hxl
  obtain ⟨row, Hrow⟩ : ∃ l, Hid (l = bgF rs n1 true p) := ⟨_, (rfl : bgF rs n1 true p = _)⟩
  have hrm : row.length ≤ 8000 := by rw [Hrow.out]; exact Nat.le_trans (bgF_len _ _ _ _) hm
  have HRI : Hid (∀ i ∈ row, i < n1) := (by rw [Hrow.out]; exact fun i hi => bgF_mem hi : ∀ i ∈ row, i < n1)
  obtain ⟨m, Hm⟩ : ∃ m, Hid (row.length = m) := ⟨_, (rfl : row.length = _)⟩
  have hvc := hT.cell true p hp
  have hvo := hT.rows true p hp
  have hMr := hT.row_ne (t := true) hp M hM
  rw [← Hrow.out, Hm.out] at hvo
  rw [← Hrow.out]
  obtain ⟨va, vc, hv⟩ := own_shape hvo
  rw [hv] at hvc hvo hMr
  rw [Hm.out] at hrm
  have hsz := hT.sz
  have hBb : Bb < lo := hT.lt true
  clear hT e1
  obtain ⟨b, off, ff, rfl, hb, hxr⟩ := t1.out hxl
  obtain ⟨_, _, _, _, _, _, _, y0, y1, y2, y3, y4, y5⟩ := hxr x hxl
  rw [hxp] at y1
  obtain ⟨xf, Hxf⟩ : ∃ d, Hid (d = rs[x].fr) := ⟨_, (rfl : rs[x].fr = _)⟩
  obtain ⟨xw, Hxw⟩ : ∃ d, Hid (d = rs[x].way) := ⟨_, (rfl : rs[x].way = _)⟩
  obtain ⟨xt, Hxt⟩ : ∃ d, Hid (d = rs[x].time) := ⟨_, (rfl : rs[x].time = _)⟩
  obtain ⟨xl, Hxl⟩ : ∃ d, Hid (d = rs[x].len) := ⟨_, (rfl : rs[x].len = _)⟩
  obtain ⟨xn, Hxn⟩ : ∃ d, Hid (d = rs[x].name) := ⟨_, (rfl : rs[x].name = _)⟩
  rw [← Hxf.out] at y0
  rw [← Hxw.out] at y2
  rw [← Hxt.out] at y3
  rw [← Hxl.out] at y4
  rw [← Hxn.out] at y5
  clear hxr
  obtain ⟨W, HW⟩ : ∃ W, Hid (W = w.alloc (.cells #[.slice a0 n0 c0, .slice (some ⟨b, off, none⟩) n1 c1, .slice a2 k2 c2, .slice (some ⟨Bb, 0, none⟩) n0 n0, .slice (some ⟨Be, 0, none⟩) n0 n0, .map (some M)] 59)) := ⟨_, (rfl : w.alloc (.cells #[.slice a0 n0 c0, .slice (some ⟨b, off, none⟩) n1 c1, .slice a2 k2 c2, .slice (some ⟨Bb, 0, none⟩) n0 n0, .slice (some ⟨Be, 0, none⟩) n0 n0, .map (some M)] 59) = _)⟩
  have hBW : Bel w W := by rw [HW.out]; exact bel_alloc (Bel.refl _) _
  have XN : Blk W w.heap.size [.slice a0 n0 c0, .slice (some ⟨b, off, none⟩) n1 c1, .slice a2 k2 c2, .slice (some ⟨Bb, 0, none⟩) n0 n0, .slice (some ⟨Be, 0, none⟩) n0 n0, .map (some M)] := by rw [HW.out]; exact Blk.new w [.slice a0 n0 c0, .slice (some ⟨b, off, none⟩) n1 c1, .slice a2 k2 c2, .slice (some ⟨Bb, 0, none⟩) n0 n0, .slice (some ⟨Be, 0, none⟩) n0 n0, .map (some M)] _
  have x1 : W.cell? ⟨w.heap.size, 1, none⟩ = some (.slice (some ⟨b, off, none⟩) n1 c1) := XN.cell 1 (by simp)
  have xll := XN.lt
  have z0 := bel_cellM hBW hb y0
  have z1 := bel_cellM hBW hb y1
  have z2 := bel_cellM hBW hb y2
  have z3 := bel_cellM hBW hb y3
  have z4 := bel_cellM hBW hb y4
  have z5 := bel_cellM hBW hb y5
  have hxI : (x : Int) < (n1 : Int) := by omega
  have hpI : (p : Int) < (n0 : Int) := by omega
  obtain ⟨W1, HW1⟩ : ∃ W1, Hid (W1 = W.alloc (.cells #[.int .i64 xf, .int .i64 p, .int .i64 xw, .int .i64 xt, .int .i64 xl, .string xn] 72)) := ⟨_, (rfl : W.alloc (.cells #[.int .i64 xf, .int .i64 p, .int .i64 xw, .int .i64 xt, .int .i64 xl, .string xn] 72) = _)⟩
  have hB01 : Bel W W1 := by rw [HW1.out]; exact bel_alloc (Bel.refl _) _
  have XB : Blk W1 W.heap.size [.int .i64 xf, .int .i64 p, .int .i64 xw, .int .i64 xt, .int .i64 xl, .string xn] := by rw [HW1.out]; exact Blk.new W [.int .i64 xf, .int .i64 p, .int .i64 xw, .int .i64 xt, .int .i64 xl, .string xn] _
  have hBW1 := bel_step hBW hB01
  have XN1 := XN.bel hB01
  have hvo1 := hvo.kept (bel_none hBW1) (Classical.em _)
  have hvc1 : W1.cell? ⟨Bb, p, none⟩ = some (.slice va m vc) := bel_cellM hBW1 (by omega) hvc
  have t1W : RoadL W1 (some ⟨b, off, none⟩) rs b1 := t1.bel roadE hBW1
  have hS1 := hS.bel hBW1
  have hne1 : w.heap.size ≠ M := by omega
  have hne2 : W.heap.size ≠ M := by have := hBW.out.size; omega
  have hGW : w.grownBy W1 (some M) := grown_of_bel hBW1 _
  have w1 : W1.cell? ⟨w.heap.size, 3, none⟩ = some (.slice (some ⟨Bb, 0, none⟩) n0 n0) := XN1.cell 3 (by simp)
  have w2 : W1.cell? ⟨W.heap.size, 1, none⟩ = some (.int .i64 p) := XB.cell 1 (by simp)
  have wl1 := XN1.lt
  have wl2 := XB.lt
  have hMlt : M < w.heap.size := by omega
  clear hS hvo t1 y0 y1 y2 y3 y4 y5
  go_enter Try.func66, Try.ntmps66
  go_upto_region 1 with fail
  rw [← HW.out]
  go_upto_region 2 with fail
  rw [← HW1.out]
  clear x1 xll z0 z1 z2 z3 z4 z5
  go_wp2_with fail
  go_loopw [6, 8, 22] (fun g _ i wr => ∃ j : Nat, j ≤ m ∧ i = .int .i64 j ∧ g = .bool (goes rs x (row.take j)) ∧ Hid (BX wr M (bkL rs x L0 (row.take j))) ∧ Hid (W1.grownBy wr (some M))) (fun _ _ i _ => m - (intOf i).toNat)
  case atStart => exact ⟨0, Nat.zero_le _, rfl, rfl, hS1, World.grownBy.refl _ _⟩
  case round =>
    obtain ⟨j, hj, rfl, rfl, HSj, Hgr⟩ := hrel
    by_cases hlt : j < m
    · have hjl : j < row.length := by rw [Hm.out]; exact hlt
      obtain ⟨_, _, hvs⟩ := own_some hvo1 (by omega)
      obtain ⟨gb, rfl⟩ : ∃ gb, va = some ⟨gb, 0, none⟩ := by injection hvs with hva _ _; exact ⟨_, hva⟩
      clear hvs
      have hor := hvo1.kept Hgr.out (.inr (fun e => hMr e.symm))
      have hgb := (hor.lt gb rfl).2
      have hck : wr.cell? ⟨gb, j, none⟩ = some (.int .i64 (row[j] : Int)) := by
        rw [hor.cellAt j (by omega)]
        unfold intsN
        rw [List.getElem?_map, List.getElem?_eq_getElem hjl]; rfl
      obtain ⟨k, Hk⟩ : ∃ k, Hid (k = row[j]) := ⟨_, (rfl : row[j] = _)⟩
      have hkn : k < n1 := by rw [Hk.out]; exact HRI.out _ (List.getElem_mem hjl)
      rw [← Hk.out] at hck
      have hkl : k < rs.length := by rw [HE1.out]; exact hkn
      obtain ⟨b', off', f', e, hb', hxk⟩ := (t1W.grown roadE Hgr.out hMb).out hkl
      injection e with e
      injection e with e1 e2
      subst e1 e2
      obtain ⟨_, _, _, _, _, _, _, _, y1, y2, _⟩ := hxk k hkl
      obtain ⟨kt, Hkt⟩ : ∃ d, Hid (d = rs[k].to) := ⟨_, (rfl : rs[k].to = _)⟩
      obtain ⟨kw, Hkw⟩ : ∃ d, Hid (d = rs[k].way) := ⟨_, (rfl : rs[k].way = _)⟩
      rw [← Hkt.out] at y1
      rw [← Hkw.out] at y2
      have Xr := XN1.grown Hgr.out hne1
      have Br := XB.grown Hgr.out hne2
      have c1 : wr.cell? ⟨w.heap.size, 1, none⟩ = some (.slice (some ⟨b, off, none⟩) n1 c1) := Xr.cell 1 (by simp)
      have c5 : wr.cell? ⟨w.heap.size, 5, none⟩ = some (.map (some M)) := Xr.cell 5 (by simp)
      have cl := Xr.lt
      have d0 : wr.cell? ⟨W.heap.size, 0, none⟩ = some (.int .i64 xf) := Br.cell 0 (by simp)
      have d2 : wr.cell? ⟨W.heap.size, 2, none⟩ = some (.int .i64 xw) := Br.cell 2 (by simp)
      have dl := Br.lt
      have hkI : (k : Int) < (n1 : Int) := by omega
      have hjI : (j : Int) < (m : Int) := by omega
      have HBk : Hid (isBk rs x row[j] = decide (kt = xf ∧ kw = xw)) := show isBk rs x row[j] = decide (kt = xf ∧ kw = xw) by
        rw [← Hk.out, isBk_at hxl hkl, Hkt.out, Hkw.out, Hxf.out, Hxw.out]
      have hno : ¬ (kt = xf ∧ kw = xw) → Hid (bkL rs x L0 (row.take (j + 1)) = bkL rs x L0 (row.take j) ∧ goes rs x (row.take (j + 1)) = true) := fun h => show _ ∧ _ by
        rw [bkL_step hjl, goes_step hjl, HBk.out, decide_eq_false h]
        simp
      clear hxk hor w1 w2
      by_cases h1 : kt = xf
      rotate_left
      · have HN := hno (fun h => h1 h.1)
        have q1 : (kt == xf) = false := by simp [h1]
        clear hno h1
        go_wp2_with fail
        go_quiet (fail)
        go_wp2_with fail
        go_roundw
        case rel => exact ⟨j + 1, by omega, by go_num, by rw [HN.out.2], by rw [HN.out.1]; exact HSj.out.bel (bel_drewN (Bel.refl _) _), grown_step Hgr.out (bel_drewN (Bel.refl _) _)⟩
        case measure => simp [intOf]; omega
      by_cases h2 : kw = xw
      rotate_left
      · have HN := hno (fun h => h2 h.2)
        have q1 : (kt == xf) = true := by simp [h1]
        have q2 : (kw == xw) = false := by simp [h2]
        clear hno h1 h2
        go_wp2_with fail
        go_quiet (fail)
        go_wp2_with fail
        go_roundw
        case rel => exact ⟨j + 1, by omega, by go_num, by rw [HN.out.2], by rw [HN.out.1]; exact HSj.out.bel (bel_drewN (Bel.refl _) _), grown_step Hgr.out (bel_drewN (Bel.refl _) _)⟩
        case measure => simp [intOf]; omega
      have HY : Hid (bkL rs x L0 (row.take (j + 1)) = capB (bkL rs x L0 (row.take j)) ⟨x, k⟩ ∧ goes rs x (row.take (j + 1)) = goes rs x (row.take j)) := show _ ∧ _ by
        rw [bkL_step hjl, goes_step hjl, HBk.out, decide_eq_true ⟨h1, h2⟩, ← Hk.out]
        simp
      have q1 : (kt == xf) = true := by simp [h1]
      have q2 : (kw == xw) = true := by simp [h2]
      have hin : In64 (x : Int) ∧ In64 (k : Int) := by unfold In64; omega
      clear hno h1 h2
      go_wp2_with fail
      go_quiet (fail)
      have hbq : Bel wr (wr.drewN nq) := bel_drewN (Bel.refl _) _
      generalize wr.drewN nq = wq at hbq ⊢
      have Xq := Xr.bel hbq
      have c5' : wq.cell? ⟨w.heap.size, 5, none⟩ = some (.map (some M)) := Xq.cell 5 (by simp)
      have cl' := Xq.lt
      have hbV : Bel wq (wq.alloc (.cells #[.int .i64 x, .int .i64 k] 75)) := bel_alloc (Bel.refl _) _
      have hlj : (bkL rs x L0 (row.take j)).length ≤ 2001 := bkL_len h0
      have hSq := HSj.out.bel hbq
      have cP := putX_any M (bkL rs x L0 (row.take j)) (some ⟨wq.heap.size, 0, none⟩) 1 1 [⟨x, k⟩] [wq.heap.size] (wq.alloc (.cells #[.int .i64 x, .int .i64 k] 75)) (hSq.bel hbV) hlj (one_ban wq ⟨x, k⟩ hin.1 hin.2 _) rfl (by omega) (by have := hSq.lt; simp; omega)
      have HgV := grown_step (grown_step Hgr.out hbq) hbV
      clear c1 c5 cl d0 d2 dl y1 y2
      go_wp2_with fail
      refine cP.mono ?_
      rintro e w3 ⟨rfl, hS3, _, hg3⟩
      have HS3 : Hid (BX w3 M (bkL rs x L0 (row.take (j + 1)))) := by rw [HY.out.1]; exact hS3
      have hG3 := HgV.trans hg3
      clear hS3 cP
      go_wp2_with fail
      go_roundw
      case rel => exact ⟨j + 1, by omega, by go_num, by rw [HY.out.2], HS3, hG3⟩
      case measure => simp [intOf]; omega
    · obtain rfl : j = m := by omega
      have HE : Hid (row.take j = row) := List.take_of_length_le (by rw [Hm.out]; exact Nat.le_refl _)
      rw [HE.out] at HSj ⊢
      clear w1 w2 wl1 wl2
      go_wp2_with fail
      go_ret
      exact ⟨rfl, HSj.out, hGW.trans Hgr.out⟩
end Go.Proofs.Ytiagdabikbjbiaa
