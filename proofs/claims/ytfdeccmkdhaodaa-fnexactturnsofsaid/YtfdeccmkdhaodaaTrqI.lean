/-
  Which roads may follow one, in the program: contracts.
-/
import Derived.Test.YtfdeccmkdhaodaaTrqM
import Derived.Test.YtfdeccmkdhaodaaNetI
import Derived.Test.YtfdeccmkdhaodaaGrowC
namespace Go.Proofs.Ytfdeccmkdhaodaa
open Go.RowKit Go.Maps

set_option maxRecDepth 100000 in
set_option maxHeartbeats 2000000 in
theorem turns_any (lo Bb Be M : Nat) (V : Bool → Nat → Value) (a0 : Option Addr) (k0 c0 : Nat) (a1 : Option Addr) (n1 c1 : Nat) (a2 : Option Addr) (k2 c2 n0 n2 : Nat) (g : GraphD) (b1 : List Nat) (r p : Nat) (w : World) (hT : Tabs lo w (fun t => cond t Bb Be) n0 V (bgF g.roads n1)) (hS : BSet w M n2 (inL g.bans)) (t1 : RoadL w a1 g.roads b1) (e1 : g.roads.length = n1) (hm : n1 ≤ 8000) (hr : r < n1) (hp : (g.roads[r]'(by omega)).to = (p : Int)) (hpn : p < n0) :
    Calls Try.prog 106 #[.agg #[.slice a0 k0 c0, .slice a1 n1 c1, .slice a2 k2 c2, .slice (some ⟨Bb, 0, none⟩) n0 n0, .slice (some ⟨Be, 0, none⟩) n0 n0, .map (some M)], .int .i64 (r : Int)] w fun e w' => ∃ v', e = .returned v' ∧ OwnI w.heap.size w' v' (tnT g r p n1) ∧ Bel w w' := by
  obtain ⟨i0, hi0, hz0, hz1, hz2⟩ := info_parts infoI
  have H1 : Hid (g.roads.length = n1) := e1
  have hrl : r < g.roads.length := by rw [e1]; exact hr
  obtain ⟨b, off, f, rfl, hb, hx⟩ := t1.out hrl
  obtain ⟨_, _, _, _, _, _, _, _, y1, _⟩ := hx r hrl
  have y1 : w.cell? ⟨b, off + r * 6 + 1, none⟩ = some (.int .i64 (p : Int)) := by rw [← hp]; exact y1
  obtain ⟨row, HR⟩ : ∃ row, Hid (row = bgF g.roads n1 true p) := ⟨_, (rfl : bgF g.roads n1 true p = _)⟩
  have hrow := hT.rows true p hpn
  have hcell : w.cell? ⟨Bb, p, none⟩ = some (V true p) := hT.cell true p hpn
  rw [← HR.out] at hrow
  have hrm : row.length ≤ n1 := by rw [HR.out]; exact bgF_len _ _ _ _
  have hri : ∀ i ∈ row, i < n1 := fun i hi => by rw [HR.out] at hi; exact bgF_mem hi
  obtain ⟨m, Hm⟩ : ∃ m, Hid (row.length = m) := ⟨_, (rfl : row.length = _)⟩
  have hm' : m ≤ 8000 := by rw [← Hm.out]; omega
  rw [Hm.out] at hrow
  obtain ⟨va, vc, hv⟩ := own_shape hrow
  rw [hv] at hcell hrow
  have HQ : Hid (tnT g r p n1 = tnL row g.bans r) := (by unfold tnT; rw [HR.out] : tnT g r p n1 = tnL row g.bans r)
  have hBb : Bb < w.heap.size := by have h1 : Bb < lo := hT.lt true; have := hT.sz; omega
  obtain ⟨W, HW⟩ : ∃ W, Hid (W = w.alloc (.cells #[.slice a0 k0 c0, .slice (some ⟨b, off, none⟩) n1 c1, .slice a2 k2 c2, .slice (some ⟨Bb, 0, none⟩) n0 n0, .slice (some ⟨Be, 0, none⟩) n0 n0, .map (some M)] 157)) := ⟨_, (rfl : w.alloc (.cells #[.slice a0 k0 c0, .slice (some ⟨b, off, none⟩) n1 c1, .slice a2 k2 c2, .slice (some ⟨Bb, 0, none⟩) n0 n0, .slice (some ⟨Be, 0, none⟩) n0 n0, .map (some M)] 157) = _)⟩
  have hBW : Bel w W := by rw [HW.out]; exact bel_alloc (Bel.refl _) _
  have XN : Blk W w.heap.size [.slice a0 k0 c0, .slice (some ⟨b, off, none⟩) n1 c1, .slice a2 k2 c2, .slice (some ⟨Bb, 0, none⟩) n0 n0, .slice (some ⟨Be, 0, none⟩) n0 n0, .map (some M)] := by rw [HW.out]; exact Blk.new w [.slice a0 k0 c0, .slice (some ⟨b, off, none⟩) n1 c1, .slice a2 k2 c2, .slice (some ⟨Bb, 0, none⟩) n0 n0, .slice (some ⟨Be, 0, none⟩) n0 n0, .map (some M)] _
  have x1 : W.cell? ⟨w.heap.size, 1, none⟩ = some (.slice (some ⟨b, off, none⟩) n1 c1) := XN.cell 1 (by simp)
  have x3 : W.cell? ⟨w.heap.size, 3, none⟩ = some (.slice (some ⟨Bb, 0, none⟩) n0 n0) := XN.cell 3 (by simp)
  have y1W := bel_cellM hBW hb y1
  have hcW := bel_cellM hBW hBb hcell
  have hrI : (r : Int) < (n1 : Int) := by omega
  have hpI : (p : Int) < (n0 : Int) := by omega
  have hrow1 := hrow.kept (bel_none hBW) (Classical.em _)
  have hSW := hS.bel hBW
  clear hx y1 hcell hT hS hv hrow hp e1 t1
  go_enter Try.func106, Try.ntmps106
  go_wp2
  rw [← HW.out]
  go_wp2
  go_quiet (fail)
  obtain ⟨W1, HW1⟩ : ∃ W1, Hid (W1 = W.drewN nq) := ⟨_, (rfl : W.drewN nq = _)⟩
  have hBd : Bel W W1 := by rw [HW1.out]; exact bel_drewN (Bel.refl _) _
  have XN1 := XN.bel hBd
  have hrow2 := hrow1.kept (bel_none hBd) (Classical.em _)
  have hS1 := hSW.bel hBd
  have hB1 := bel_step hBW hBd
  have O1 : OwnI W1.heap.size W1 (.slice none 0 0) [] := World.ownsRow_nil _ _ _ _
  clear x1 x3 y1W hcW hrow1 hSW XN hBd
  rw [← HW1.out]
  go_wp2
  go_loopw [5, 7, 20] (fun o _ i wr => ∃ k : Nat, k ≤ m ∧ i = .int .i64 k ∧ OwnI W1.heap.size wr o (tnL (row.take k) g.bans r) ∧ Bel W1 wr) (fun _ _ i _ => m - (intOf i).toNat)
  case atStart => exact ⟨0, Nat.zero_le _, rfl, O1, Bel.refl _⟩
  case round =>
    clear O1 HW HW1
    obtain ⟨k, hk, rfl, hown, hBr⟩ := hrel
    obtain ⟨oa, oc, rfl⟩ := own_shape hown
    by_cases hlt : k < m
    · have hkl : k < row.length := by rw [Hm.out]; exact hlt
      obtain ⟨_, _, hvs⟩ := own_some hrow2 (by omega)
      obtain ⟨gb, rfl⟩ : ∃ gb, va = some ⟨gb, 0, none⟩ := by injection hvs with hva _ _; exact ⟨_, hva⟩
      clear hvs
      have hgb := ((hrow2.kept (bel_none hBr) (Classical.em _)).lt gb rfl).2
      have hck : wr.cell? ⟨gb, k, none⟩ = some (.int .i64 (row[k] : Int)) := by
        rw [(hrow2.kept (bel_none hBr) (Classical.em _)).cellAt k (by omega)]
        unfold intsN
        rw [List.getElem?_map, List.getElem?_eq_getElem hkl]; rfl
      obtain ⟨x, Hx⟩ : ∃ x, Hid (x = row[k]) := ⟨_, (rfl : row[k] = _)⟩
      have hxn : x < n1 := by rw [Hx.out]; exact hri _ (List.getElem_mem hkl)
      rw [← Hx.out] at hck
      have k5 : wr.cell? ⟨w.heap.size, 5, none⟩ = some (.map (some M)) := (XN1.bel hBr).cell 5 (by simp)
      have kl := (XN1.bel hBr).lt
      have hSr := hS1.bel hBr
      have hlt' : (k : Int) < (m : Int) := by omega
      have hln : (tnL (row.take k) g.bans r).length ≤ 8000 := Nat.le_trans (tnL_len _ _ _) (by rw [List.length_take]; omega)
      have hszr := hBr.out.size
      clear hrow2 hS1
      go_wp2_with fail
      refine (bhas_any M n2 _ _ _ _ hSr ⟨by omega, by omega⟩ ⟨by omega, by omega⟩).mono ?_
      rintro e w2 ⟨rfl, hb2⟩
      have hB2 := bel_step hBr hb2
      have hown2 : OwnI W1.heap.size w2 (.slice oa (tnL (row.take k) g.bans r).length oc) (tnL (row.take k) g.bans r) := World.ownsRow.kept hown (bel_none hb2) (Classical.em _)
      clear hown hSr hck k5
      rcases Bool.eq_false_or_eq_true (bP (inL g.bans (r : Int) (x : Int))) with hin | hin
      · have HE : Hid (tnL (row.take (k + 1)) g.bans r = tnL (row.take k) g.bans r) := tnL_no hkl (by rw [← Hx.out]; exact hin)
        rw [hin]
        go_wp2
        go_roundw
        case rel => exact ⟨k + 1, by omega, by go_num, by rw [HE.out]; exact hown2, hB2⟩
        case measure => simp [intOf]; omega
      · have HE : Hid (tnL (row.take (k + 1)) g.bans r = tnL (row.take k) g.bans r ++ [(x : Int)]) := by rw [Hx.out]; exact tnL_yes hkl (by rw [← Hx.out]; exact hin)
        rw [hin]
        have hown3 := World.ownsRow.alloc hown2 (.cells #[.int .i64 (x : Int)] 2)
        have hBa := bel_alloc hB2 (.cells #[.int .i64 (x : Int)] 2)
        have hsz2 := hB2.out.size
        clear hown2
        go_wp2_with (first
          | (at_builtin; refine wpList_append_own _ rfl _ _ 44 rfl W1.heap.size 2 i0 (.int .i64 0) 1 8 Try.underlying44 hi0 hz0 hz1 hz2 rfl (by decide) _ _ _ rfl hown3 ⟨w2.heap.size, 0, none⟩ 1 1 [.int .i64 (x : Int)] rfl rfl ?c1 ?c2 ?c3 ?c4 ?c5 ?_)
          | go_in)
        case c1 =>
          intro j u hj
          match j, hj with
          | 0, hj => simp at hj; subst hj; simp [Addr.add]
        case c2 =>
          intro u hu
          simp at hu
          rcases hu with rfl
          rfl
        case c3 => unfold maxLen; omega
        case c4 => omega
        case c5 => simp; omega
        intro v' w3 hown' hgrow _
        have HO3 : Hid (OwnI W1.heap.size w3 v' (tnL (row.take (k + 1)) g.bans r)) := by rw [HE.out]; exact own_add hown'
        have hB3 : Bel W1 w3 := bel_grow hBa hgrow (fun j e => (hown3.lt j e).1)
        clear hown' hgrow hown3 hBa
        go_wp2
        go_roundw
        case rel => exact ⟨k + 1, by omega, by go_num, HO3.out, hB3⟩
        case measure => simp [intOf]; omega
    · have e : m = k := by omega
      have HO : Hid (OwnI w.heap.size wr (.slice oa (tnL (row.take k) g.bans r).length oc) (tnT g r p n1)) := by
        have h := own_base hown hB1.out.size
        have e : row.take k = row := List.take_of_length_le (by rw [Hm.out]; omega)
        rw [HQ.out]
        rw [e] at h ⊢
        exact h
      subst e
      clear hown
      go_wp2
      go_ret
      exact ⟨_, rfl, HO.out, bel_step hB1 hBr⟩

set_option maxRecDepth 100000 in
set_option maxHeartbeats 2000000 in
theorem turnsOf_any (v : Value) (g : GraphD) (bs : List Nat) (x : Int) (w : World) (hV : GphV w v g bs) (hQ : GphQ g) (hx : In64 x) :
    Calls Try.prog 24 #[v, .int .i64 x] w fun e w' => ∃ v', e = .returned v' ∧ OwnI w.heap.size w' v' (trnQ g x) ∧ Bel w w' := by
  have hV' := hV
  obtain ⟨a0, c0, a1, c1, a2, c2, b0, b1, b2, _, rfl, t0, t1, t2⟩ := hV
  obtain ⟨n0, H0⟩ : ∃ n, Hid (g.places.length = n) := ⟨_, (rfl : g.places.length = _)⟩
  obtain ⟨n1, H1⟩ : ∃ n, Hid (g.roads.length = n) := ⟨_, (rfl : g.roads.length = _)⟩
  obtain ⟨n2, H2⟩ : ∃ n, Hid (g.bans.length = n) := ⟨_, (rfl : g.bans.length = _)⟩
  rw [H0.out, H1.out, H2.out] at hV' ⊢
  obtain ⟨W, HW⟩ : ∃ W, Hid (W = w.alloc (.cells #[.slice a0 n0 c0, .slice a1 n1 c1, .slice a2 n2 c2] 33)) := ⟨_, (rfl : w.alloc (.cells #[.slice a0 n0 c0, .slice a1 n1 c1, .slice a2 n2 c2] 33) = _)⟩
  have hBW : Bel w W := by rw [HW.out]; exact bel_alloc (Bel.refl _) _
  have XG : Blk W w.heap.size [.slice a0 n0 c0, .slice a1 n1 c1, .slice a2 n2 c2] := by rw [HW.out]; exact Blk.new w [.slice a0 n0 c0, .slice a1 n1 c1, .slice a2 n2 c2] _
  by_cases hP : graphP g
  · have m1 : n1 ≤ 8000 := by rw [← H1.out]; exact hP.1.2.1
    have HP : Hid (graphP g) := hP
    rcases Bool.eq_false_or_eq_true (inN n1 x) with hin | hin
    · obtain ⟨r, hr, rfl⟩ := inN_nat hin
      have hrl : r < g.roads.length := by rw [H1.out]; exact hr
      have hro := roadB_out (hP.2.2.1 r hrl)
      obtain ⟨p, hp, ep⟩ := inN_nat (n := g.places.length) (x := g.roads[r].to) (inN_iff.2 hro.2.1)
      have hpn : p < n0 := by rw [← H0.out]; exact hp
      have HQQ : Hid (trnQ g (r : Int) = tnT g r p n1) := (by rw [trnQ_at hP hrl ep]; unfold tnT; rw [H1.out] : trnQ g (r : Int) = tnT g r p n1)
      have HEP : Hid (g.roads[r].to = (p : Int)) := ep
      clear ep hro hP hp
      go_enter Try.func24, Try.ntmps24
      go_wp2_with fail
      rw [← HW.out]
      refine (networkOf_yes _ _ _ _ _ _ _ _ _ g b0 b1 b2 _ (t0.bel spotE hBW) (t1.bel roadE hBW) (t2.bel banE hBW) H0.out H1.out H2.out HP.out).mono ?_
      rintro e w1 ⟨⟨lo, Bb, Be, M, V, rfl, hT, hS, zm, d1, d2, ⟨o1, o2, o3⟩, hb1⟩⟩
      rw [H0.out] at hT ⊢
      rw [H1.out] at hT
      have XG1 := XG.bel hb1
      have hB1 := bel_step hBW hb1
      obtain ⟨U, HU⟩ : ∃ U, Hid (U = w1.alloc (.cells #[.slice a0 n0 c0, .slice a1 n1 c1, .slice a2 n2 c2, .slice (some ⟨Bb, 0, none⟩) n0 n0, .slice (some ⟨Be, 0, none⟩) n0 n0, .map (some M)] 157)) := ⟨_, (rfl : w1.alloc (.cells #[.slice a0 n0 c0, .slice a1 n1 c1, .slice a2 n2 c2, .slice (some ⟨Bb, 0, none⟩) n0 n0, .slice (some ⟨Be, 0, none⟩) n0 n0, .map (some M)] 157) = _)⟩
      have hbU : Bel w1 U := by rw [HU.out]; exact bel_alloc (Bel.refl _) _
      have XU : Blk U w1.heap.size [.slice a0 n0 c0, .slice a1 n1 c1, .slice a2 n2 c2, .slice (some ⟨Bb, 0, none⟩) n0 n0, .slice (some ⟨Be, 0, none⟩) n0 n0, .map (some M)] := by rw [HU.out]; exact Blk.new w1 [.slice a0 n0 c0, .slice a1 n1 c1, .slice a2 n2 c2, .slice (some ⟨Bb, 0, none⟩) n0 n0, .slice (some ⟨Be, 0, none⟩) n0 n0, .map (some M)] _
      have XGU := XG1.bel hbU
      have g1 : U.cell? ⟨w.heap.size, 1, none⟩ = some (.slice a1 n1 c1) := XGU.cell 1 (by simp)
      have gl := XGU.lt
      have u0 : U.cell? ⟨w1.heap.size, 0, none⟩ = some (.slice a0 n0 c0) := XU.cell 0 (by simp)
      have u1 : U.cell? ⟨w1.heap.size, 1, none⟩ = some (.slice a1 n1 c1) := XU.cell 1 (by simp)
      have u2 : U.cell? ⟨w1.heap.size, 2, none⟩ = some (.slice a2 n2 c2) := XU.cell 2 (by simp)
      have u3 : U.cell? ⟨w1.heap.size, 3, none⟩ = some (.slice (some ⟨Bb, 0, none⟩) n0 n0) := XU.cell 3 (by simp)
      have u4 : U.cell? ⟨w1.heap.size, 4, none⟩ = some (.slice (some ⟨Be, 0, none⟩) n0 n0) := XU.cell 4 (by simp)
      have u5 : U.cell? ⟨w1.heap.size, 5, none⟩ = some (.map (some M)) := XU.cell 5 (by simp)
      have ul := XU.lt
      have hTU := hT.bel hbU
      have hSU := hS.bel hbU
      have hBU := bel_step hB1 hbU
      clear hT hS XG1 XU XGU XG
      go_upto_region 2 with fail
      rw [← HU.out]
      go_wp2_with fail
      refine (inRoad_r _ _ _ _ true _ hin).mono ?_
      rintro e w' ⟨rfl, rfl⟩
      go_wp2_with fail
      refine (turns_any lo Bb Be M V _ _ _ _ _ _ _ _ _ n0 _ g b1 r p _ hTU hSU (t1.bel roadE hBU) H1.out m1 hr HEP.out hpn).mono ?_
      rintro e w3 ⟨v', rfl, hO, hb3⟩
      obtain ⟨oa, oc, rfl⟩ := own_shape hO
      have HO : Hid (OwnI w.heap.size w3 (.slice oa (tnT g r p n1).length oc) (trnQ g (r : Int))) := by rw [HQQ.out]; exact own_base hO hBU.out.size
      have hB3 := bel_step hBU hb3
      clear hO hTU hSU u0 u1 u2 u3 u4 u5
      go_wp2
      go_ret
      exact ⟨_, rfl, HO.out, hB3⟩
    · have HQQ : Hid (trnQ g x = []) := trnQ_no (fun h => by have := h.2; rw [H1.out, hin] at this; cases this)
      clear hP
      go_enter Try.func24, Try.ntmps24
      go_wp2_with fail
      rw [← HW.out]
      refine (networkOf_yes _ _ _ _ _ _ _ _ _ g b0 b1 b2 _ (t0.bel spotE hBW) (t1.bel roadE hBW) (t2.bel banE hBW) H0.out H1.out H2.out HP.out).mono ?_
      rintro e w1 ⟨⟨lo, Bb, Be, M, V, rfl, _, _, zm, d1, d2, ⟨o1, o2, o3⟩, hb1⟩⟩
      rw [H0.out]
      have XG1 := XG.bel hb1
      have hB1 := bel_step hBW hb1
      have g1 : w1.cell? ⟨w.heap.size, 1, none⟩ = some (.slice a1 n1 c1) := XG1.cell 1 (by simp)
      have gl := XG1.lt
      have gl2 : w.heap.size < w1.heap.size + 1 := by omega
      have HB : Hid (∀ o, Bel w (w1.alloc o)) := fun o => bel_alloc hB1 o
      clear XG1 XG
      go_wp2_with fail
      refine (inRoad_r _ _ _ _ false _ hin).mono ?_
      rintro e w' ⟨rfl, rfl⟩
      go_wp2
      go_ret
      exact ⟨_, rfl, by rw [HQQ.out]; exact World.ownsRow_nil _ _ _ _, HB.out _⟩
  · have HQQ : Hid (trnQ g x = []) := trnQ_no (fun h => hP h.1)
    go_enter Try.func24, Try.ntmps24
    go_wp2_with fail
    rw [← HW.out]
    refine (networkOf_no _ _ _ _ _ _ _ _ _ g bs _ (hV'.bel hBW) hQ hP).mono ?_
    rintro e w1 ⟨rfl, hb1⟩
    have hB1 := bel_step hBW hb1
    clear XG
    go_wp2
    go_ret
    exact ⟨_, rfl, by rw [HQQ.out]; exact World.ownsRow_nil _ _ _ _, bel_alloc hB1 _⟩
end Go.Proofs.Ytfdeccmkdhaodaa
