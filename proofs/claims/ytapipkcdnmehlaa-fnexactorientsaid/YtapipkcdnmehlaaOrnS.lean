/-
  Contract of Orient's model: for all rings.
-/
import Derived.Test.YtapipkcdnmehlaaOrnE
namespace Go.Proofs.Ytapipkcdnmehlaa
open Go.RowKit Go.Maps

set_option maxRecDepth 100000 in
set_option maxHeartbeats 4000000 in
theorem specOrient_any (a : Option Addr) (n c : Nat) (l : List RingD) (bs : List Nat) (w : World) (hT : RingL w a l bs) (hn : l.length = n) (hm : n ≤ 1048576) (hs : ∀ i (h : i < l.length), l[i].row.length ≤ 1048576) :
    Calls Try.prog 18 #[.slice a n c] w fun e w' => ∃ v' bs', e = .returned v' ∧ (∃ a' c', v' = .slice a' (ornQ l).length c' ∧ RingL w' a' (ornQ l) bs') ∧ Fresh w w' bs' ∧ Bel w w' := by
  obtain ⟨i0, hi0, hz0, hz1, hz2⟩ := info_parts infoCPt
  obtain ⟨j0, hj0, hy0, hy1, hy2⟩ := info_parts infoRg
  have Hn : Hid (l.length = n) := hn
  obtain ⟨W, HW⟩ : ∃ W, Hid (W = w.alloc (.cells #[] 55)) := ⟨_, (rfl : w.alloc (.cells #[] 55) = _)⟩
  have hBW : Bel w W := by rw [HW.out]; exact bel_alloc (Bel.refl _) _
  have O0 : W.ownsRow w.heap.size 55 2 (.slice (some ⟨w.heap.size, 0, none⟩) 0 0) 0 [] := by rw [HW.out]; exact World.ownsRow_lit w #[] 0 (Nat.le_refl _) (Nat.zero_le _) rfl
  have G0 : Gr 2 RingV 55 w.heap.size W (.slice (some ⟨w.heap.size, 0, none⟩) 0 0) (orT l 0) (fun _ => List.replicate 2 (.bool false)) (fun _ => []) :=
    ⟨O0, fun _ => by simp, fun i h => absurd h (Nat.not_lt_zero _), fun i h => absurd h (Nat.not_lt_zero _), by simp [orT]⟩
  have hTW := hT.bel ringE hBW
  clear O0
  cases hok : rgsB l
  · have HQ : Hid (ornQ l = []) := (by unfold ornQ; rw [hok]; rfl : ornQ l = [])
    rw [HQ.out]
    go_enter Try.func18, Try.ntmps18
    go_wp2_with fail
    rw [← HW.out]
    refine (l4RowsOk_any _ _ _ l bs _ hTW hn hm hs).mono ?_
    rintro e w1 ⟨rfl, hb1⟩
    rw [hok]
    have HA : Hid (∃ a' c', Value.slice (some ⟨w.heap.size, 0, none⟩) 0 0 = .slice a' ([] : List RingD).length c' ∧ RingL w1 a' [] []) := ⟨_, 0, rfl, Sl.nil⟩
    clear G0
    go_wp2
    go_ret
    exact ⟨_, [], rfl, HA.out, Fresh.nil _ _, bel_step hBW hb1⟩
  · have HQ : Hid (ornQ l = l.map ornR) := (by unfold ornQ; rw [hok]; rfl : ornQ l = l.map ornR)
    have HL : Hid ((l.map ornR).length = n) := (by rw [List.length_map]; exact hn : (l.map ornR).length = n)
    rw [HQ.out, HL.out]
    have hm40 : n ≤ 40 := by rw [← hn]; exact (rgsB_out hok).1
    have HR : Hid (∀ j (hj : j < l.length), l[j].row.length ≤ 2000 ∧ ∀ i, i < l[j].row.length → POk (lx l[j].row i) (ly l[j].row i)) := (rgsB_out hok).2
    go_enter Try.func18, Try.ntmps18
    go_wp2_with fail
    rw [← HW.out]
    refine (l4RowsOk_any _ _ _ l bs _ hTW hn hm hs).mono ?_
    rintro e w1 ⟨rfl, hb1⟩
    rw [hok]
    have G1 := G0.bel ringV hb1
    have hB1 := bel_step hBW hb1
    clear G0 hTW hBW hb1 HW hs hok hn
    obtain ⟨V1, HV1⟩ : ∃ V : World, V = w1 := ⟨w1, rfl⟩
    subst HV1
    go_wp2
    go_loopw [3, 4] (fun o i wr => ∃ (k : Nat) (R : Nat → List Value) (f : Nat → List Nat), k ≤ n ∧ i = .int .i64 k ∧ Gr 2 RingV 55 w.heap.size wr o (orT l k) R f ∧ Bel w wr) (fun _ i _ => n - (intOf i).toNat)
    case atStart => exact ⟨0, _, _, Nat.zero_le _, rfl, G1, hB1⟩
    case round =>
      clear G1
      obtain ⟨k, R, f0, hk, rfl, hG, hBr⟩ := hrel
      obtain ⟨va, vc, rfl⟩ := own_shape hG.own
      have HLK : Hid ((orT l k).length = k) := orT_len (by rw [Hn.out]; exact hk)
      have HG : Hid (Gr 2 RingV 55 w.heap.size wr (.slice va (orT l k).length vc) (orT l k) R f0) := hG
      clear hG
      by_cases hlt : k < n
      · have hkl : k < l.length := by rw [Hn.out]; exact hlt
        obtain ⟨b, off, f, rfl, hb, hx⟩ := (hT.bel ringE hBr).out hkl
        obtain ⟨a0, k0, ml, c0, c1, t0⟩ := hx k hkl
        have HE : Hid (orT l (k + 1) = orT l k ++ [ornR l[k]]) := orT_succ hkl
        obtain ⟨hr1, hr2⟩ := HR.out k hkl
        obtain ⟨d, Hd⟩ : ∃ d, Hid (l[k] = d) := ⟨_, (rfl : l[k] = _)⟩
        rw [Hd.out] at HE ml c0 c1 t0 hr1 hr2
        obtain ⟨m, hmr⟩ : ∃ m, d.row.length = m := ⟨_, rfl⟩
        have HM : Hid (d.row.length = m) := hmr
        rw [hmr] at c0 hr1
        have hlt' : (k : Int) < (n : Int) := by omega
        obtain ⟨V, HV0⟩ : ∃ V, Hid (V = wr.alloc (.cells #[] 36)) := ⟨_, (rfl : wr.alloc (.cells #[] 36) = _)⟩
        have hBV : Bel wr V := by rw [HV0.out]; exact bel_alloc (Bel.refl _) _
        have hown0 : V.ownsRow wr.heap.size 36 2 (.slice (some ⟨wr.heap.size, 0, none⟩) 0 0) 0 [] := by rw [HV0.out]; exact World.ownsRow_lit wr #[] 0 (Nat.le_refl _) (Nat.zero_le _) rfl
        have t1 := t0.bel ptE hBV
        have hVs : wr.heap.size ≤ V.heap.size := hBV.out.size
        rw [HV0.out] at hown0 t1 hVs
        clear hx t0 hmr
        go_upto_region 7 with fail
        go_wp2_with (first
          | (at_builtin; refine wpList_append_flat ptF (by decide) rfl _ _ 25 rfl wr.heap.size 36 i0 (.agg #[.int .i64 0, .int .i64 0]) 16 Try.underlying25 hi0 hz0 hz1 hz2 rfl _ rfl hown0 a0 m k0 d.row _ rfl t1 HM.out (by omega) (by decide) hVs ?_)
          | go_in)
        intro a2 c2 b2 w2 T2 M2 hgrow
        have h02 : Bel wr w2 := bel_grow (bel_alloc (Bel.refl wr) (.cells #[] 36)) hgrow (fun j e => (hown0.lt j e).1)
        have F2 : Fresh wr w2 b2 := M2.fresh (Nat.le_refl _)
        have hP2 := T2.pts
        rw [HM.out] at hP2
        clear hgrow hown0 t1 hVs hBV HV0 M2
        go_wp2_with fail
        refine (l4Twice_any _ _ _ _ _ _ hP2 hr1 (fun i hi => hr2 i (by rw [HM.out]; exact hi))).mono ?_
        rintro e w3 ⟨rfl, hb3⟩
        obtain ⟨t, Ht⟩ : ∃ t, Hid (twS (lx d.row) (ly d.row) (m - 1) = t) := ⟨_, (rfl : twS (lx d.row) (ly d.row) (m - 1) = _)⟩
        rw [Ht.out]
        obtain ⟨r, Hr⟩ : ∃ r, Hid (wrong d = r) := ⟨_, (rfl : wrong d = _)⟩
        have HTW : Hid (twL d.row = t) := by rw [← Ht.out]; show twS _ _ (d.row.length - 1) = _; rw [HM.out]
        have HRE : Hid (r = ((decide (0 < t) && d.inner) || (decide (t < 0) && !d.inner))) := by rw [← Hr.out, ← HTW.out]; exact rfl
        have h03 := bel_step h02 hb3
        have T3 := T2.bel ptE hb3
        have F3 := F2.bel hb3
        have e1 := bel_cellM h03 hb c1
        obtain ⟨i, Hi⟩ : ∃ i, Hid (d.inner = i) := ⟨_, (rfl : d.inner = _)⟩
        rw [Hi.out] at HRE e1
        clear T2 F2 hP2 hb3 h02
        go_upto_region 9 with fail
        go_cut [47] (fun v wx => v = .bool r ∧ wx = w3)
        case first =>
          by_cases h1 : 0 < t
          · cases i
            · go_wp2
              go_meet
              case rel => exact ⟨congrArg Value.bool (by rw [HRE.out]; simp; omega), rfl⟩
            · go_wp2
              go_meet
              case rel => exact ⟨congrArg Value.bool (by rw [HRE.out]; simp [h1]), rfl⟩
          · by_cases h2 : t < 0
            · cases i
              · go_wp2
                go_meet
                case rel => exact ⟨congrArg Value.bool (by rw [HRE.out]; simp [h2]), rfl⟩
              · go_wp2
                go_meet
                case rel => exact ⟨congrArg Value.bool (by rw [HRE.out]; simp; omega), rfl⟩
            · go_wp2
              go_meet
              case rel => exact ⟨congrArg Value.bool (by rw [HRE.out]; simp; omega), rfl⟩
        case rest =>
          obtain ⟨rfl, hwc⟩ := hcut
          subst hwc
          clear e1
          cases r
          · have HE2 : Hid ((ornR d).row = d.row) := (by unfold ornR; rw [Hr.out]; rfl : (ornR d).row = d.row)
            have h04 : Bel wr wc := h03
            have HV : Hid (RingV wc [.slice a2 m c2, .bool d.inner] (ornR d) b2) := (⟨by rw [ornR_len]; exact ml, a2, c2, by rw [ornR_len, HM.out]; rfl, by rw [HE2.out]; exact T3⟩ : RingV wc _ (ornR d) b2)
            have hown2 := World.ownsRow.alloc (own_bel HG.out.own h04) (.cells #[.slice a2 m c2, .bool d.inner] 55)
            have hBa := bel_alloc (bel_step hBr h04) (.cells #[.slice a2 m c2, .bool d.inner] 55)
            have hB4 := bel_step hBr h04
            have c1w : wc.cell? ⟨b, off + k * 2 + 1, none⟩ = some (.bool d.inner) := bel_cellM h04 hb c1
            clear T3 c0 c1
            go_upto_region 11 with fail
            go_wp2_with (first
              | (at_builtin; refine wpList_append_lies _ rfl _ _ 34 rfl w.heap.size 55 j0 (.agg #[.slice none 0 0, .bool false]) 2 32 Try.underlying34 hj0 hy0 hy1 hy2 rfl (by decide) _ _ _ rfl hown2 ⟨wc.heap.size, 0, none⟩ 1 1 [.slice a2 m c2, .bool d.inner] rfl rfl ?c1 ?c2 (by decide) ?c3 ?c4 ?c5 (wc.heap.size + 1) ?c6 ?_)
              | go_in)
            case c1 =>
              intro j u hj
              match j, hj with
              | 0, hj => simp at hj; subst hj; simp [Addr.add]
              | 1, hj => simp at hj; subst hj; simp [Addr.add]
            case c2 =>
              intro u hu
              simp at hu
              rcases hu with rfl | rfl <;> rfl
            case c3 => have := HLK.out; unfold maxLen; omega
            case c4 => have := HLK.out; omega
            case c5 => have := hB4.out.size; simp; omega
            case c6 => simp
            intro g cap w5 hown' hgrow hat _
            have HG5 : Hid (∃ R' f', Gr 2 RingV 55 w.heap.size w5 (.slice (some ⟨g, 0, none⟩) ((orT l k).length + 1) cap) (orT l (k + 1)) R' f') := by
              have hat' : (Value.slice va (orT l k).length vc).ownBlock = some g ∨ g = (wc.alloc (.cells #[.slice a2 m c2, .bool d.inner] 55)).heap.size := by simpa using hat
              have := Gr.add ringV HG.out h04 (bel_alloc (Bel.refl wc) (.cells #[.slice a2 m c2, .bool d.inner] 55)) HV.out F3 hBr.out.size hown' hgrow (hatO hat')
              rw [HE.out]
              exact ⟨_, _, this⟩
            have hB5 : Bel w w5 := bel_grow hBa hgrow (fun j e => (hown2.lt j e).1)
            clear hown' hgrow hown2 hBa HG hat HV h04 hB4 c1w
            go_wp2
            go_roundw
            case rel =>
              obtain ⟨R', f', G'⟩ := HG5.out
              exact ⟨k + 1, R', f', by omega, by go_num, G', hB5⟩
            case measure => simp [intOf]; omega
          · have HE2 : Hid ((ornR d).row = d.row.reverse) := (by unfold ornR; rw [Hr.out]; rfl : (ornR d).row = d.row.reverse)
            go_wp2_with fail
            refine (l4Turned_any _ _ _ d.row b2 _ T3 HM.out (by omega)).mono ?_
            rintro e w6 ⟨a6, c6, b6, rfl, T6, F6, hb6⟩
            have F06 : Fresh wr w6 b6 := F6.old h03.out.size
            have h06 := bel_step h03 hb6
            have h04 : Bel wr w6 := h06
            have HV : Hid (RingV w6 [.slice a6 m c6, .bool d.inner] (ornR d) b6) := (⟨by rw [ornR_len]; exact ml, a6, c6, by rw [ornR_len, HM.out]; rfl, by rw [HE2.out]; exact T6⟩ : RingV w6 _ (ornR d) b6)
            have hown2 := World.ownsRow.alloc (own_bel HG.out.own h04) (.cells #[.slice a6 m c6, .bool d.inner] 55)
            have hBa := bel_alloc (bel_step hBr h04) (.cells #[.slice a6 m c6, .bool d.inner] 55)
            have hB4 := bel_step hBr h04
            have c1w : w6.cell? ⟨b, off + k * 2 + 1, none⟩ = some (.bool d.inner) := bel_cellM h04 hb c1
            clear T6 c0 c1
            go_upto_region 11 with fail
            go_wp2_with (first
              | (at_builtin; refine wpList_append_lies _ rfl _ _ 34 rfl w.heap.size 55 j0 (.agg #[.slice none 0 0, .bool false]) 2 32 Try.underlying34 hj0 hy0 hy1 hy2 rfl (by decide) _ _ _ rfl hown2 ⟨w6.heap.size, 0, none⟩ 1 1 [.slice a6 m c6, .bool d.inner] rfl rfl ?c1 ?c2 (by decide) ?c3 ?c4 ?c5 (w6.heap.size + 1) ?c6 ?_)
              | go_in)
            case c1 =>
              intro j u hj
              match j, hj with
              | 0, hj => simp at hj; subst hj; simp [Addr.add]
              | 1, hj => simp at hj; subst hj; simp [Addr.add]
            case c2 =>
              intro u hu
              simp at hu
              rcases hu with rfl | rfl <;> rfl
            case c3 => have := HLK.out; unfold maxLen; omega
            case c4 => have := HLK.out; omega
            case c5 => have := hB4.out.size; simp; omega
            case c6 => simp
            intro g cap w5 hown' hgrow hat _
            have HG5 : Hid (∃ R' f', Gr 2 RingV 55 w.heap.size w5 (.slice (some ⟨g, 0, none⟩) ((orT l k).length + 1) cap) (orT l (k + 1)) R' f') := by
              have hat' : (Value.slice va (orT l k).length vc).ownBlock = some g ∨ g = (w6.alloc (.cells #[.slice a6 m c6, .bool d.inner] 55)).heap.size := by simpa using hat
              have := Gr.add ringV HG.out h04 (bel_alloc (Bel.refl w6) (.cells #[.slice a6 m c6, .bool d.inner] 55)) HV.out F06 hBr.out.size hown' hgrow (hatO hat')
              rw [HE.out]
              exact ⟨_, _, this⟩
            have hB5 : Bel w w5 := bel_grow hBa hgrow (fun j e => (hown2.lt j e).1)
            clear hown' hgrow hown2 hBa HG hat HV h04 hB4 c1w
            go_wp2
            go_roundw
            case rel =>
              obtain ⟨R', f', G'⟩ := HG5.out
              exact ⟨k + 1, R', f', by omega, by go_num, G', hB5⟩
            case measure => simp [intOf]; omega
      · have e : n = k := by omega
        subst e
        have HO := Gr.out ringV HG.out
        have HT : Hid (orT l n = l.map ornR) := by rw [← Hn.out]; exact orT_all l
        rw [HLK.out]
        obtain ⟨a', c', bs', e', hS, hM⟩ := HO
        rw [HLK.out] at e'
        obtain ⟨rfl, rfl⟩ : va = a' ∧ vc = c' := by simpa using e'
        have HS : Hid (∃ a' c', Value.slice va n vc = .slice a' n c' ∧ RingL wr a' (l.map ornR) bs') := ⟨va, vc, rfl, by rw [← HT.out]; exact hS⟩
        have hF := hM.fresh (w := w) (Nat.le_refl _)
        clear hS e' HG hM
        go_wp2
        go_ret
        exact ⟨_, bs', rfl, HS.out, hF, hBr⟩
end Go.Proofs.Ytapipkcdnmehlaa
