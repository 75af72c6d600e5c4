/-
  Within in the program: contract.
-/
import Derived.Test.YtdlgehnoiaoneaaGreatDoorWinN
import Derived.Test.YtdlgehnoiaoneaaGreatDoorArrM
import Derived.Test.YtdlgehnoiaoneaaGreatDoorRchI
import Derived.Test.YtdlgehnoiaoneaaGreatDoorXB
namespace Go.Proofs.YtdlgehnoiaoneaaGreatDoor
open Go.RowKit Go.Maps

/-- What is held while the numbers are gone through. -/
structure WnS (W : World) (n : Nat) (l : List BanD) (v : Value) (wr : World) : Prop where
 own : OwnA W.heap.size wr v n l
 bel : Bel W wr

set_option maxRecDepth 100000 in
set_option maxHeartbeats 4000000 in
theorem within_any (v : Value) (g : GraphD) (bs : List Nat) (x lim : Int) (w : World) (hT : Winds w) (hV : GphV w v g bs) (hQ : GphQ g) :
  Calls Tryz.prog 7 #[v, .int .i64 x, .int .i64 lim] w fun e w' => ∃ v' l, e = .returned v' ∧ OwnA w.heap.size w' v' (arD (iAt (rcQ g x)) l).length (arD (iAt (rcQ g x)) l) ∧ WI (iAt (rcQ g x)) lim (rcQ g x).length l ∧ Bel w w' := by
 have hV' := hV
 obtain ⟨a0, c0, a1, c1, a2, c2, b0, b1, b2, _, rfl, _, _, _⟩ := hV
 obtain ⟨i0, hi0, hz0, hz1, hz2⟩ := info_parts infoAr
 obtain ⟨n0, H0⟩ : ∃ n, Hid (g.places.length = n) := ⟨_, (rfl : g.places.length = _)⟩
 obtain ⟨n1, H1⟩ : ∃ n, Hid (g.roads.length = n) := ⟨_, (rfl : g.roads.length = _)⟩
 obtain ⟨n2, H2⟩ : ∃ n, Hid (g.bans.length = n) := ⟨_, (rfl : g.bans.length = _)⟩
 rw [H0.out, H1.out, H2.out] at hV' ⊢
 obtain ⟨W, HW⟩ : ∃ W, Hid (W = w.alloc (.cells #[.slice a0 n0 c0, .slice a1 n1 c1, .slice a2 n2 c2] 34)) := ⟨_, (rfl : w.alloc (.cells #[.slice a0 n0 c0, .slice a1 n1 c1, .slice a2 n2 c2] 34) = _)⟩
 have hBW : Bel w W := by rw [HW.out]; exact bel_alloc (Bel.refl _) _
 have XG : Blk W w.heap.size [.slice a0 n0 c0, .slice a1 n1 c1, .slice a2 n2 c2] := by rw [HW.out]; exact Blk.new w [.slice a0 n0 c0, .slice a1 n1 c1, .slice a2 n2 c2] _
 have z0 : W.cell? ⟨w.heap.size, 0, none⟩ = some (.slice a0 n0 c0) := XG.cell 0 (by simp)
 have z1 : W.cell? ⟨w.heap.size, 1, none⟩ = some (.slice a1 n1 c1) := XG.cell 1 (by simp)
 have z2 : W.cell? ⟨w.heap.size, 2, none⟩ = some (.slice a2 n2 c2) := XG.cell 2 (by simp)
 have zl := XG.lt
 have HI : Hid (∀ y ∈ rcQ g x, In64 y) := rcQ_in g x
 have hlen := rcQ_len g x
 have cR := reach_any _ g bs x W (hT.bel hBW) (hV'.bel hBW) hQ
 obtain ⟨R, HR⟩ : ∃ R, Hid (rcQ g x = R) := ⟨_, (rfl : rcQ g x = _)⟩
 rw [HR.out] at HI hlen cR ⊢
 obtain ⟨n, Hn⟩ : ∃ n, Hid (R.length = n) := ⟨_, (rfl : R.length = _)⟩
 rw [Hn.out] at hlen ⊢
 clear hT hV' XG HR
 go_enter Tryz.func7, Tryz.ntmps7
 go_wp2_with fail
 rw [← HW.out]
 refine cR.mono ?_
 rintro e w1 ⟨v1, rfl, O1, hb1⟩
 obtain ⟨aT, cT, eT, rfl, I1, _, _⟩ := own_ints O1 HI.out
 rw [Hn.out]
 have hB1 := bel_step hBW hb1
 have cN := numbersByW_any aT n cT R eT w1 I1 Hn.out hlen
 clear O1 cR z0 z1 z2 zl hb1
 go_wp2_with fail
 refine cN.mono ?_
 rintro e w2 ⟨d, rfl, hrow, hBk, hb2⟩
 have hB2 := bel_step hB1 hb2
 have HB2 : Hid (Bel w w2) := hB2
 have HT2 : Hid (Ints w2 aT R eT) := I1.bel intE hb2
 have HBk : Hid (Bk (iAt R) d 0 n) := hBk
 obtain ⟨NB, HNB⟩ : ∃ NB, Hid (w1.heap.size + 1 + 1 = NB) := ⟨_, (rfl : w1.heap.size + 1 + 1 = _)⟩
 rw [HNB.out] at hrow ⊢
 have Hrow : Hid (w2.rowIs NB 2 n (fun i => .int .i64 ((d i : Nat) : Int))) := hrow
 have HI0 : Hid (WnS w2 (wiF (iAt R) lim d 0).length (arD (iAt R) (wiF (iAt R) lim d 0)) (.slice none 0 0) w2) := (⟨World.ownsRow_nil _ _ _ _, Bel.refl _⟩ : WnS w2 (wiF (iAt R) lim d 0).length (arD (iAt R) (wiF (iAt R) lim d 0)) (.slice none 0 0) w2)
 clear cN hb2 hB1 hB2 I1 hBk hrow hBW HW
 go_wp2
 go_loopw [8, 10, 17] (fun u8 _ u17 wr => ∃ (k : Nat), k ≤ n ∧ u17 = .int .i64 k ∧ WnS w2 (wiF (iAt R) lim d k).length (arD (iAt R) (wiF (iAt R) lim d k)) u8 wr) (fun _ _ u17 _ => n - (intOf u17).toNat)
 case atStart => exact ⟨0, Nat.zero_le _, rfl, HI0.out⟩
 case round =>
  clear HI0
  obtain ⟨k, hk, rfl, hS⟩ := hrel
  obtain ⟨va, vc, rfl⟩ := own_shape hS.own
  have HLK : Hid ((wiF (iAt R) lim d k).length ≤ k) := wiF_len _ _ _ k
  obtain ⟨ln, Hln⟩ : ∃ y, Hid ((wiF (iAt R) lim d k).length = y) := ⟨_, (rfl : (wiF (iAt R) lim d k).length = _)⟩
  rw [Hln.out] at hS HLK ⊢
  have HS : Hid (WnS w2 ln (arD (iAt R) (wiF (iAt R) lim d k)) (.slice va ln vc) wr) := hS
  by_cases hlt : k < n
  ·have hlt' : (k : Int) < (n : Int) := by omega
   obtain ⟨t, Ht⟩ : ∃ t, Hid (d k = t) := ⟨_, (rfl : d k = _)⟩
   have htn : t < n := by rw [← Ht.out]; exact (HBk.out.2 k (Nat.zero_le _) hlt).2
   have htn' : (t : Int) < (n : Int) := by omega
   have lA : NB < wr.heap.size := bel_lt hS.bel Hrow.out.lt
   have rA : wr.cell? ⟨NB, k, none⟩ = some (.int .i64 (t : Int)) := by
    have h := bel_cellM hS.bel Hrow.out.lt (Hrow.out.cell hlt)
    rw [Ht.out] at h
    exact h
   obtain ⟨b, off, f, rfl, hb, hx⟩ := (HT2.out.bel intE hS.bel).out (k := t) (by rw [Hn.out]; exact htn)
   have cx := (hx t (by rw [Hn.out]; exact htn)).2.2
   rw [← iAt_eq, Nat.mul_one] at cx
   obtain ⟨y, Hy⟩ : ∃ y, Hid (iAt R t = y) := ⟨_, (rfl : iAt R t = _)⟩
   rw [Hy.out] at cx
   have hS' := hS.bel
   clear hS hx
   by_cases h0 : 0 ≤ y
   ·by_cases h1 : y ≤ lim
    ·have HF : Hid (wiF (iAt R) lim d (k + 1) = wiF (iAt R) lim d k ++ [t]) := (by rw [wiF_yes (by rw [Ht.out, Hy.out]; exact ⟨h0, h1⟩), Ht.out] : wiF (iAt R) lim d (k + 1) = wiF (iAt R) lim d k ++ [t])
     have hown2 : (wr.alloc (.cells #[.int .i64 (t : Int), .int .i64 y] 49)).ownsRow w2.heap.size 49 2 (.slice va ln vc) ln ((arD (iAt R) (wiF (iAt R) lim d k)).flatMap arCs) := World.ownsRow.alloc HS.out.own _
     have hBa := bel_alloc hS' (.cells #[.int .i64 (t : Int), .int .i64 y] 49)
     have hs3 : w2.heap.size ≤ wr.heap.size := hS'.out.size
     obtain ⟨L, HLL⟩ : ∃ L, Hid ((arD (iAt R) (wiF (iAt R) lim d k)).flatMap arCs = L) := ⟨_, (rfl : (arD (iAt R) (wiF (iAt R) lim d k)).flatMap arCs = _)⟩
     rw [HLL.out] at hown2
     have HBa : Hid (Bel w2 (wr.alloc (.cells #[.int .i64 (t : Int), .int .i64 y] 49))) := hBa
     clear hS' hBa
     go_wp2_with (first
      | (at_builtin; refine wpList_append_lies _ rfl _ _ 28 rfl w2.heap.size 49 i0 (.agg #[.int .i64 0, .int .i64 0]) 2 16 Tryz.underlying28 hi0 hz0 hz1 hz2 rfl (by decide) _ _ _ rfl hown2 ⟨wr.heap.size, 0, none⟩ 1 1 [.int .i64 (t : Int), .int .i64 y] rfl rfl ?c1 ?c2 (by decide) ?c3 ?c4 ?c5 (wr.heap.size + 1) ?c6 ?_)
      | go_in)
     case c1 =>
      intro t u ht
      match t, ht with
      | 0, ht => simp at ht; subst ht; simp [Addr.add]
      | 1, ht => simp at ht; subst ht; simp [Addr.add]
     case c2 =>
      intro u hu
      simp at hu
      rcases hu with rfl | rfl <;> rfl
     case c3 => have := HLK.out; unfold maxLen; omega
     case c4 => have := HLK.out; omega
     case c5 => simp; omega
     case c6 => simp
     intro gg cap w4 hown' hgrow hat _
     have HN : Hid (WnS w2 (ln + 1) (arD (iAt R) (wiF (iAt R) lim d (k + 1))) (.slice (some ⟨gg, 0, none⟩) (ln + 1) cap) w4) := (⟨by
      show World.ownsRow _ _ _ _ _ _ _
      rw [HF.out, arD_app, List.flatMap_append, HLL.out]
      have e : (arD (iAt R) [t]).flatMap arCs = [.int .i64 (t : Int), .int .i64 y] := by rw [← Hy.out]; rfl
      rw [e]
      exact hown', bel_grow HBa.out hgrow (fun j e => (hown2.lt j e).1)⟩ : WnS w2 (ln + 1) (arD (iAt R) (wiF (iAt R) lim d (k + 1))) (.slice (some ⟨gg, 0, none⟩) (ln + 1) cap) w4)
     have HL2 : Hid ((wiF (iAt R) lim d (k + 1)).length = ln + 1) := (by rw [HF.out, List.length_append, Hln.out]; rfl : (wiF (iAt R) lim d (k + 1)).length = ln + 1)
     clear hown' hgrow hown2 hat rA cx
     go_wp2
     go_roundw
     case rel => exact ⟨k + 1, by omega, by go_num, by rw [HL2.out]; exact HN.out⟩
     case measure => simp [intOf]; omega
    ·have HF : Hid (wiF (iAt R) lim d (k + 1) = wiF (iAt R) lim d k) := wiF_no (by rw [Ht.out, Hy.out]; exact fun h => h1 h.2)
     go_wp2
     go_roundw
     case rel => exact ⟨k + 1, by omega, by go_num, by rw [HF.out, Hln.out]; exact HS.out⟩
     case measure => simp [intOf]; omega
   ·have HF : Hid (wiF (iAt R) lim d (k + 1) = wiF (iAt R) lim d k) := wiF_no (by rw [Ht.out, Hy.out]; exact fun h => h0 h.1)
    go_wp2
    go_roundw
    case rel => exact ⟨k + 1, by omega, by go_num, by rw [HF.out, Hln.out]; exact HS.out⟩
    case measure => simp [intOf]; omega
  ·obtain rfl : k = n := by omega
   have hlt' : ¬ (k : Int) < (k : Int) := by omega
   have HE : Hid (OwnA w.heap.size wr (.slice va ln vc) (arD (iAt R) (wiF (iAt R) lim d k)).length (arD (iAt R) (wiF (iAt R) lim d k)) ∧ WI (iAt R) lim k (wiF (iAt R) lim d k) ∧ Bel w wr) := ⟨by
    rw [arD_len, Hln.out]
    exact own_lo HS.out.own HB2.out.out.size, wiF_wi HBk.out, bel_step HB2.out HS.out.bel⟩
   clear hS
   go_wp2
   go_ret
   exact ⟨_, rfl, _, HE.out.1, HE.out.2.1, HE.out.2.2⟩
end Go.Proofs.YtdlgehnoiaoneaaGreatDoor
