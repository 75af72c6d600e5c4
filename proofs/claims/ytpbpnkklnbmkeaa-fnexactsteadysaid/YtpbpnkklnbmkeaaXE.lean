/-
  Which labels are shown, day by day: the model.
  The walk of the law: for every list of days Steady answers as its model does; what was handed in stays as it was; the answer shares no memory with it nor with the answer of another call.
-/
import Derived.Test.YtpbpnkklnbmkeaaStdI
import Derived.Test.YtpbpnkklnbmkeaaXD
namespace Go.Proofs.Ytpbpnkklnbmkeaa
open Go.RowKit Go.Maps

def IssM (w : World) (l : List (List Int)) (e : Ending) (w' : World) : Prop := ∃ a' c' bs', e = .returned (.slice a' l.length c') ∧ IsL w' a' l bs' ∧ Bel w w'
theorem Gr.lit {α : Type} (q : Nat) (V : VElem α) (T : TypeId) (w : World) : Gr q V T w.heap.size (w.alloc (.cells #[] T)) (.slice (some ⟨w.heap.size, 0, none⟩) 0 0) [] (fun _ => List.replicate q (.bool false)) (fun _ => []) :=
  ⟨by simpa [recs] using World.ownsRow_lit w #[] 0 (Nat.le_refl _) (Nat.zero_le _) (by simp), fun _ => by simp, fun i h => absurd h (Nat.not_lt_zero _), fun i h => absurd h (Nat.not_lt_zero _), by simp⟩

set_option maxRecDepth 100000 in
set_option maxHeartbeats 4000000 in
theorem specSteady_any (a : Option Addr) (n c : Nat) (L : List (List LblD)) (bs : List Nat) (w : World) (hT : LcL w a L bs) (hn : L.length = n) (hm : n ≤ 1048576) (hs : ∀ d ∈ L, d.length ≤ 1048576) :
    Calls Try.prog 19 #[.slice a n c] w fun e w' => IssM w (stQ L) e w' := by
  have Hn : Hid (L.length = n) := hn
  have Hs : Hid (∀ d ∈ L, d.length ≤ 1048576) := hs
  clear hn hs
  by_cases h30 : n ≤ 30
  · have h30' : (n : Int) ≤ 30 := by omega
    have HQ : Hid (stQ L = stTo L n) := (by unfold stQ; rw [Hn.out, if_pos h30] : stQ L = stTo L n)
    obtain ⟨i0, hi0, hz0, hz1, hz2⟩ := info_parts infoIs
    obtain ⟨j0, hj0, hy0, hy1, hy2⟩ := info_parts infoI
    have B0 : Bel w ((w.alloc (.cells #[] 25)).alloc (.cells #[] 2)) := bel_alloc (bel_alloc (Bel.refl _) _) _
    have A0 : ∃ R f, Gr 1 IsV 25 w.heap.size ((w.alloc (.cells #[] 25)).alloc (.cells #[] 2)) (.slice (some ⟨w.heap.size, 0, none⟩) 0 0) (stTo L 0) R f :=
      ⟨_, _, (Gr.lit 1 IsV 25 w).bel isV (bel_alloc (Bel.refl _) _)⟩
    go_enter Try.func19, Try.ntmps19
    go_wp2
    go_loopw [3, 4, 5] (fun s u i wr => ∃ k : Nat, k ≤ n ∧ i = .int .i64 k ∧ (∃ R f, Gr 1 IsV 25 w.heap.size wr s (stTo L k) R f) ∧ (∃ a c bs, u = .slice a (bfK L k).length c ∧ Ints wr a (bfK L k) bs ∧ (∀ x ∈ bs, s.ownBlock ≠ some x)) ∧ Bel w wr) (fun _ _ i _ => n - (intOf i).toNat)
    case atStart => exact ⟨0, Nat.zero_le _, rfl, A0, ⟨_, _, [], rfl, Sl.nil, fun _ h => nomatch h⟩, B0⟩
    case round =>
      obtain ⟨k, hk, rfl, ⟨R, f0, hG⟩, ⟨aa, ac, ab, rfl, hI, hab⟩, hbel⟩ := hrel
      clear A0 B0
      obtain ⟨va, vc, rfl⟩ := own_shape hG.own
      by_cases hlt : k < n
      · have hkl : k < L.length := by rw [Hn.out]; exact hlt
        have hlt' : (k : Int) < (n : Int) := by omega
        have HLK : Hid ((stTo L k).length = k) := stTo_len L k
        have HE : Hid (stTo L (k + 1) = stTo L k ++ [bfK L (k + 1)]) := stTo_succ L k
        have hlen := bfK_len L k
        have hlen2 := bfK_len L (k + 1)
        have HB : Hid (bfK L (k + 1) = plQ L[k] (bfK L k)) := bfK_succ hkl
        obtain ⟨b, off, f, rfl, hb, hx⟩ := (hT.bel lcE hbel).out hkl
        obtain ⟨a0, k0, m0, mc, c0, t0⟩ := hx k hkl
        rw [Nat.mul_one] at c0
        have hsk := Hs.out L[k] (List.getElem_mem hkl)
        clear hx
        obtain ⟨q, Hq⟩ : ∃ q, Hid (bfK L k = q) := ⟨_, (rfl : bfK L k = _)⟩
        obtain ⟨z, Hz⟩ : ∃ q, Hid (bfK L (k + 1) = q) := ⟨_, (rfl : bfK L (k + 1) = _)⟩
        rw [Hq.out] at hI HB hlen ⊢
        rw [Hz.out] at HB HE hlen2
        have HG : Hid (Gr 1 IsV 25 w.heap.size wr (.slice va (stTo L k).length vc) (stTo L k) R f0) := hG
        clear hG
        go_wp2_with fail
        refine (specPlace_any a0 _ k0 L[k] (f k) aa _ ac q ab _ t0 rfl hsk mc hI rfl (by omega)).mono ?_
        rintro e w3 ⟨a3, c3, b3, rfl, I3, h03, lo3⟩
        rw [← HB.out] at I3 ⊢
        have hown1 : (w3.alloc (.cells #[] 2)).ownsRow w3.heap.size 2 1 (.slice (some ⟨w3.heap.size, 0, none⟩) 0 0) 0 [] := World.ownsRow_lit w3 #[] 0 (Nat.le_refl _) (Nat.zero_le _) rfl
        have I3a := I3.bel intE (bel_alloc (Bel.refl w3) (.cells #[] 2))
        have hl3 := I3.lt intE
        clear t0 c0 hb hI hab
        go_wp2_with (first
          | (at_builtin; refine wpList_append_flat intF (by decide) rfl _ _ 25 rfl w3.heap.size 2 j0 (.int .i64 0) 8 Try.underlying25 hj0 hy0 hy1 hy2 rfl _ rfl hown1 a3 z.length c3 z b3 rfl I3a rfl (by omega) (by decide) (by simp) ?_)
          | go_in)
        intro a4 c4 b4 w4 I4 M4 hgr4
        have h34 : Bel w3 w4 := bel_grow (bel_alloc (Bel.refl w3) _) hgr4 (fun j e => by injection e with e; subst e; exact Nat.le_refl _)
        have h04 := bel_step h03 h34
        have F4 : Fresh wr w4 b4 := M4.fresh h03.out.size
        have I34 := I3.bel intE h34
        have HV : Hid (IsV w4 [.slice a4 z.length c4] z b4) := (⟨by unfold maxLen; omega, a4, c4, rfl, I4⟩ : IsV w4 _ z b4)
        have hown2 := World.ownsRow.alloc (own_bel HG.out.own h04) (.cells #[.slice a4 z.length c4] 25)
        have hBa := bel_alloc (bel_step hbel h04) (.cells #[.slice a4 z.length c4] 25)
        have hB4 := bel_step hbel h04
        clear hgr4 I3a hown1 I4 M4
        go_wp2_with (first
          | (at_builtin; refine wpList_append_lies _ rfl _ _ 39 rfl w.heap.size 25 i0 (.slice none 0 0) 1 24 Try.underlying39 hi0 hz0 hz1 hz2 rfl (by decide) _ _ _ rfl hown2 ⟨w4.heap.size, 0, none⟩ 1 1 [.slice a4 z.length c4] rfl rfl ?c1 ?c2 (by decide) ?c3 ?c4 ?c5 (w4.heap.size + 1) ?c6 ?_)
          | go_in)
        case c1 =>
          intro j u hj
          match j, hj with
          | 0, hj => simp at hj; subst hj; simp [Addr.add]
        case c2 =>
          intro u hu
          simp at hu
          rcases hu with rfl; rfl
        case c3 => have := HLK.out; unfold maxLen; omega
        case c4 => have := HLK.out; omega
        case c5 => have := hB4.out.size; simp; omega
        case c6 => simp
        intro g cap w5 hown' hgrow hat _
        have hat' : (Value.slice va (stTo L k).length vc).ownBlock = some g ∨ g = (w4.alloc (.cells #[.slice a4 z.length c4] 25)).heap.size := by simpa using hat
        have hgv : ∀ y, (Value.slice va (stTo L k).length vc).ownBlock = some y → y < wr.heap.size := fun y e => (HG.out.own.lt y e).2
        have hA4 : Alike w4 w5 b3 := by
          have h1 : Alike w4 (w4.alloc (.cells #[.slice a4 z.length c4] 25)) b3 := Alike.bel (bel_alloc (Bel.refl w4) _) (fun x hx => I34.lt intE x hx)
          exact h1.trans (alike_row hgrow (fun x hx => ⟨(h1 x hx).1, fun e => by have := hgv x e.symm; have := lo3 x hx; omega⟩))
        have HA5 : Hid (∃ R f, Gr 1 IsV 25 w.heap.size w5 (.slice (some ⟨g, 0, none⟩) ((stTo L k).length + 1) cap) (stTo L (k + 1)) R f) := by
          have := Gr.add isV HG.out h04 (bel_alloc (Bel.refl w4) (.cells #[.slice a4 z.length c4] 25)) HV.out F4 hbel.out.size hown' hgrow (hatS hat')
          rw [← HE.out] at this
          exact ⟨_, _, this⟩
        have HL5 : Hid (∃ a c bs, (Value.slice a3 z.length c3) = .slice a (bfK L (k + 1)).length c ∧ Ints w5 a (bfK L (k + 1)) bs ∧ (∀ x ∈ bs, (Value.slice (some ⟨g, 0, none⟩) ((stTo L k).length + 1) cap).ownBlock ≠ some x)) := by
          refine ⟨a3, c3, b3, by rw [Hz.out], by rw [Hz.out]; exact I34.alike intE hA4, fun x hx e => ?_⟩
          have e1 : g = x := by injection e
          subst e1
          have := lo3 g hx
          have := I34.lt intE g hx
          rcases hat' with h | h
          · have := hgv g h; omega
          · simp at h; omega
        have hB5 : Bel w w5 := bel_grow hBa hgrow (fun j e => (hown2.lt j e).1)
        clear hown' hgrow hown2 hBa HG hat hat' HV F4 h04 hB4 hgv hA4 I34 lo3 hl3 h34 h03 I3
        go_wp2
        go_roundw
        case rel => exact ⟨k + 1, by omega, by go_num, HA5.out, HL5.out, hB5⟩
        case measure => simp [intOf]; omega
      · have e : k = n := by omega
        subst e
        obtain ⟨a', bs', c', e', hS, hM⟩ := Gr.out isV hG
        injection e' with e1 _ e3
        subst e1 e3
        have HZ : Hid (IssM w (stQ L) (.returned (.slice va (stTo L k).length vc)) wr) := (by rw [HQ.out]; exact ⟨_, _, c', rfl, hS, hbel⟩ : IssM w (stQ L) (.returned (.slice va (stTo L k).length vc)) wr)
        clear hG hS hM hI
        go_wp2
        go_ret
        exact HZ.out
  · have h30' : ¬ (n : Int) ≤ 30 := by omega
    have HQ : Hid (stQ L = []) := (by unfold stQ; rw [Hn.out, if_neg h30] : stQ L = [])
    have B0 : Bel w ((w.alloc (.cells #[] 25)).alloc (.cells #[] 2)) := bel_alloc (bel_alloc (Bel.refl _) _) _
    have hn0 : (0 : Int) < (n : Int) := by omega
    go_enter Try.func19, Try.ntmps19
    go_wp2
    go_loopw [3, 4, 5] (fun s u i wr => s = .slice (some ⟨w.heap.size, 0, none⟩) 0 0 ∧ i = .int .i64 0 ∧ wr = ((w.alloc (.cells #[] 25)).alloc (.cells #[] 2))) (fun _ _ _ _ => 0)
    case atStart => exact ⟨rfl, rfl, rfl⟩
    case round =>
      obtain ⟨rfl, rfl, hw⟩ := hrel
      have HZ : Hid (IssM w (stQ L) (.returned (.slice (some ⟨w.heap.size, 0, none⟩) 0 0)) wr) := (by rw [HQ.out]; exact ⟨_, 0, [], rfl, Sl.nil, by rw [hw]; exact B0⟩ : IssM w (stQ L) (.returned (.slice (some ⟨w.heap.size, 0, none⟩) 0 0)) wr)
      clear hw
      go_wp2
      go_ret
      exact HZ.out
end Go.Proofs.Ytpbpnkklnbmkeaa

namespace Go.Proofs.Ytpbpnkklnbmkeaa
open Go.RowKit Go.Maps

set_option maxHeartbeats 4000000 in
theorem lawFnExactSteady_any (a : Option Addr) (c : Nat) (l : List (List LblD)) (bs : List Nat) (w : World) (hT : LsL w a l bs) (hm : l.length ≤ maxLen) :
    Calls Try.prog 5 #[.slice a l.length c] w fun e w' => e = .returned (.bool true) ∧ Bel w w' := by
  obtain ⟨n, hn⟩ : ∃ n, l.length = n := ⟨_, rfl⟩
  rw [hn] at hm ⊢
  unfold maxLen at hm
  have Hn : Hid (l.length = n) := hn
  have hql0 := stQ_len l
  obtain ⟨q, Hq⟩ : ∃ q, Hid (stQ l = q) := ⟨_, (rfl : stQ l = _)⟩
  have hqr : ∀ d ∈ q, d.length ≤ 1048576 := fun d hd => by
    rw [← Hq.out] at hd
    have := stQ_row hd
    omega
  have hqi : ∀ i (h : i < q.length), q[i].length ≤ 1048576 := fun i h => hqr _ (List.getElem_mem h)
  rw [Hq.out] at hql0
  have hql : q.length ≤ 1048576 := by omega
  clear hn
  go_enter Try.func5, Try.ntmps5
  go_wp2_with fail
  refine (szLabelSS_any _ _ _ l bs _ hT Hn.out hm).mono ?_
  rintro e w1 ⟨r, rfl, HR, hb1⟩
  by_cases hr : 0 ≤ r
  · obtain ⟨hn', hs⟩ := HR.out hr
    have hr0 : ¬ r < 0 := by omega
    clear HR hr
    go_wp2_with fail
    refine (toLabelSS_any _ _ _ l bs _ (hT.bel lsE hb1) Hn.out hn' hs).mono ?_
    rintro e w2 ⟨B2, d2, rfl, u2, _, hb2⟩
    have hB2 := bel_step hb1 hb2
    go_wp2_with fail
    refine (specSteady_any _ _ _ l d2 _ u2 Hn.out hn' hs).mono ?_
    rintro e w3 ⟨a3, c3, e3, rfl, I3, hb3⟩
    rw [Hq.out] at I3 ⊢
    have hB3 := bel_step hB2 hb3
    clear u2
    go_wp2_with fail
    refine (toLabelSS_any _ _ _ l bs _ (hT.bel lsE hB3) Hn.out hn' hs).mono ?_
    rintro e w4 ⟨B4, d4, rfl, u4, F4, hb4⟩
    have hB4 := bel_step hB3 hb4
    have HF4 : Hid (∀ x ∈ d4, w3.heap.size ≤ x ∧ x < w4.heap.size) := F4.new
    go_wp2_with fail
    refine (steady_any _ _ _ l d4 _ u4.rows Hn.out hn' hs).mono ?_
    rintro e w5 ⟨a5, c5, e5, rfl, I5, F5, hb5⟩
    rw [Hq.out] at I5 ⊢
    have hB5 := bel_step hB4 hb5
    have HF5 : Hid (∀ x ∈ e5, w4.heap.size ≤ x ∧ x < w5.heap.size) := F5.new
    have h35 := bel_step hb4 hb5
    have I53 := I3.bel isE h35
    go_wp2_with fail
    refine (eqInt64SS_any _ _ _ _ _ q _ _ _ I5 I53 rfl hql hqr).mono ?_
    rintro e w6 ⟨rfl, hb6⟩
    have hB6 := bel_step hB5 hb6
    go_wp2_with fail
    refine (toLabelSS_any _ _ _ l bs _ (hT.bel lsE hB6) Hn.out hn' hs).mono ?_
    rintro e w7 ⟨B7, d7, rfl, u7, _, hb7⟩
    have hB7 := bel_step hB6 hb7
    have h57 := bel_step hb6 hb7
    go_wp2_with fail
    refine (eqLabelSS_any _ _ _ _ _ l d4 d7 _ ((u4.rows.bel lsE hb5).bel lsE h57) u7.rows Hn.out hn' hs).mono ?_
    rintro e w8 ⟨rfl, hb8⟩
    have hB8 := bel_step hB7 hb8
    have h58 := bel_step h57 hb8
    have s2 := hb4.out.size
    have s3 := hB3.out.size
    have l3 := I3.lt isE
    have J3 := I53.bel isE h58
    have J5 := I5.bel isE h58
    have K5 := F5.bel h58
    have U4 := (u4.rows.bel lsE hb5).bel lsE h58
    have L4 := (F4.bel hb5).bel h58
    have HN5 : Hid e5.Nodup := F5.nd
    have HN4 : Hid d4.Nodup := F4.nd
    have HD34 : Hid (∀ x ∈ e3, x ∉ d4) := fun x hx hy => by have := l3 x hx; have := (HF4.out x hy).1; omega
    have HD35 : Hid (∀ x ∈ e3, x ∉ e5) := fun x hx hy => by have := l3 x hx; have := (HF5.out x hy).1; omega
    have HD54 : Hid (∀ x ∈ e5, x ∉ d4) := fun x hx hy => by have := (HF5.out x hx).1; have := (HF4.out x hy).2; omega
    have Hlo4 : Hid (∀ x ∈ d4, w.heap.size ≤ x) := fun x hx => by have := (HF4.out x hx).1; omega
    have Hlo5 : Hid (∀ x ∈ e5, w.heap.size ≤ x) := fun x hx => by have := (HF5.out x hx).1; omega
    clear I3 I53 I5 F5 u4 F4 u7 s2 s3 l3 h57 h58 h35 hb6 hb7 hb8
    go_wp2_with fail
    refine (markLabelSS_o _ n _ l d4 _ U4 L4.free HN4.out Hn.out hn' hs).mono ?_
    rintro e w9 ⟨m9, rfl, hm9, O9⟩
    have S9 : Bel w w9 := Onl.to_bel hB8 O9 Hlo4.out
    have J3a := J3.alike isE (O9.alike (J3.lt isE) HD34.out)
    have J5a := J5.alike isE (O9.alike (J5.lt isE) HD54.out)
    have K5a : ∀ x ∈ e5, ∀ j, w9.frozen? ⟨x, j, none⟩ = false := fun x hx j => by rw [OnlP.frozen O9 (J5.lt isE x hx) (HD54.out x hx)]; exact K5.free x hx j
    have hk0 : ¬ ((m9 : Nat) : Int) < 0 := by omega
    clear J3 J5 K5 U4 L4 O9
    go_wp2_with fail
    refine (eqInt64SS_any _ _ _ _ _ q _ _ _ J5a J3a rfl hql hqr).mono ?_
    rintro e w10 ⟨rfl, hb10⟩
    have S10 := bel_step S9 hb10
    have J3c := J3a.bel isE hb10
    have J5c := J5a.bel isE hb10
    have K5c : ∀ x ∈ e5, ∀ j, w10.frozen? ⟨x, j, none⟩ = false := fun x hx j => by rw [hb10.out.frozen (p := ⟨x, j, none⟩) (J5a.lt isE x hx)]; exact K5a x hx j
    clear J3a J5a K5a
    go_wp2_with fail
    refine (markInt64SS_any a5 _ c5 q e5 1 _ J5c K5c HN5.out rfl hql hqi (by omega)).mono ?_
    rintro e w11 ⟨rfl, M11, _, O11⟩
    have S11 : Bel w w11 := Onl.to_bel S10 O11 Hlo5.out
    have J3d := J3c.alike isE (O11.alike (J3c.lt isE) HD35.out)
    obtain ⟨t, Ht⟩ : ∃ t, Hid (stIs 1 q q.length = t) := ⟨_, (rfl : stIs 1 q q.length = _)⟩
    rw [Ht.out]
    have hk1 : ¬ ((t : Nat) : Int) < 0 := by omega
    clear J3c J5c K5c O11
    go_wp2_with fail
    refine (heldInt64SS_any a5 _ c5 q e5 1 _ M11 rfl hql hqi (by omega)).mono ?_
    rintro e w12 ⟨rfl, rfl⟩
    rw [Ht.out]
    go_wp2_with fail
    refine (toLabelSS_any _ _ _ l bs _ (hT.bel lsE S11) Hn.out hn' hs).mono ?_
    rintro e w13 ⟨B13, d13, rfl, u13, _, hb13⟩
    have S13 := bel_step S11 hb13
    go_wp2_with fail
    refine (steady_any _ _ _ l d13 _ u13.rows Hn.out hn' hs).mono ?_
    rintro e w14 ⟨a14, c14, e14, rfl, I14, _, hb14⟩
    rw [Hq.out] at I14 ⊢
    have S14 := bel_step S13 hb14
    have h1114 := bel_step hb13 hb14
    clear u13
    go_wp2_with fail
    refine (eqInt64SS_any _ _ _ _ _ q _ _ _ I14 (J3d.bel isE h1114) rfl hql hqr).mono ?_
    rintro e w15 ⟨rfl, hb15⟩
    have S15 := bel_step S14 hb15
    have M15 := M11.bel isE (bel_step h1114 hb15)
    clear I14 M11 J3d
    go_wp2_with fail
    refine (heldInt64SS_any a5 _ c5 q e5 1 _ M15 rfl hql hqi (by omega)).mono ?_
    rintro e w16 ⟨rfl, rfl⟩
    rw [Ht.out]
    go_wp2
    go_ret
    exact ⟨rfl, S15⟩
  · have hr0 : r < 0 := by omega
    clear HR hr
    go_wp2
    go_ret
    exact ⟨rfl, hb1⟩
end Go.Proofs.Ytpbpnkklnbmkeaa
