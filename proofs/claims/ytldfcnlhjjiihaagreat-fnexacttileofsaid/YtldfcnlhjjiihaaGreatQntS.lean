/-
  Quantise in the model: its contract, for every row and every tile.
-/
import Derived.Test.YtldfcnlhjjiihaaGreatQntI
import Derived.Deep.RegionHeld3
import Derived.BigRegion
namespace Go.Proofs.YtldfcnlhjjiihaaGreat
open Go.RowKit Go.Maps

set_option maxRecDepth 100000 in
set_option maxHeartbeats 4000000 in
theorem l6Quantise_any (a : Option Addr) (n c : Nat) (X Y : Nat → Int) (z x y : Int) (w : World) (hP : Pts w a n X Y) (hn : n ≤ 1048576) (ht : tilB z x y = true) (L : List PtD)
  (hL : L = if inB (tbx z x y) n X Y = true then cpL (qzX z x y X) (qzY z x y Y) n else []) :
  Calls Tryz.prog 22 #[.slice a n c, til z x y] w fun e w' => ∃ a' c' bs, e = .returned (.slice a' L.length c') ∧ PtL w' a' L bs ∧ Fresh w w' bs ∧ Bel w w' := by
 obtain ⟨i0, hi0, hz0, hz1, hz2⟩ := info_parts infoPq
 have HLn : Hid (inB (tbx z x y) n X Y = false → L = []) := fun h => by rw [hL, if_neg (by rw [h]; exact Bool.false_ne_true)]
 have HLy : Hid (inB (tbx z x y) n X Y = true → L = cpL (qzX z x y X) (qzY z x y Y) n) := fun h => by rw [hL, if_pos h]
 clear hL
 have Ht : Hid (tilB z x y = true) := ht
 have hz := (til_out ht).1
 have HT : Hid (∀ u v, ptB (tbx z x y) u v = true → Sqr (tbx z x y) (zS z) u v) := fun u v h => sqr_of ht h
 have cB := fun w' => l6Box_any z x y w' ht
 have cS := fun w' => l6Side_any z w' hz
 have s1 := (zNS hz).2.1
 have s2 := (zNS hz).2.2.2.2.2
 have HX : Hid (∀ i, qzX z x y X i = qz (tbx z x y).a (zS z) (X i)) := fun i => rfl
 have HY : Hid (∀ i, qzY z x y Y i = qz (tbx z x y).b (zS z) (Y i)) := fun i => rfl
 obtain ⟨PX, HPX⟩ : ∃ f, Hid (qzX z x y X = f) := ⟨_, (rfl : qzX z x y X = _)⟩
 obtain ⟨PY, HPY⟩ : ∃ f, Hid (qzY z x y Y = f) := ⟨_, (rfl : qzY z x y Y = _)⟩
 rw [HPX.out] at HX HLy; rw [HPY.out] at HY HLy
 obtain ⟨s, hs⟩ : ∃ s, zS z = s := ⟨_, rfl⟩
 rw [hs] at cS s1 s2 HX HY HT
 obtain ⟨q, hq⟩ : ∃ q, tbx z x y = q := ⟨_, rfl⟩
 rw [hq] at cB HX HY HT HLn HLy
 clear hs hq hz ht
 have hB0 : Bel w (w.alloc (.cells #[.int .i64 z, .int .i64 x, .int .i64 y] 30)) := bel_alloc (Bel.refl _) _
 have X0 : Blk (w.alloc (.cells #[.int .i64 z, .int .i64 x, .int .i64 y] 30)) w.heap.size [.int .i64 z, .int .i64 x, .int .i64 y] := Blk.new w [.int .i64 z, .int .i64 x, .int .i64 y] _
 go_enter Tryz.func22, Tryz.ntmps22
 go_wp2_with fail
 refine (cB _).mono ?_
 rintro e w1 ⟨rfl, hb1⟩
 have hB1 := bel_step hB0 hb1
 obtain ⟨V, HV⟩ : ∃ V, Hid (V = w1.alloc (.cells #[.int .i64 q.a, .int .i64 q.b, .int .i64 q.c, .int .i64 q.d] 63)) := ⟨_, (rfl : w1.alloc (.cells #[.int .i64 q.a, .int .i64 q.b, .int .i64 q.c, .int .i64 q.d] 63) = _)⟩
 have hbV : Bel w1 V := by rw [HV.out]; exact bel_alloc (Bel.refl _) _
 have Y0 : Blk w1 w.heap.size [.int .i64 z, .int .i64 x, .int .i64 y] := X0.bel hb1
 have l0 := Y0.lt
 have YB : Blk V w1.heap.size [.int .i64 q.a, .int .i64 q.b, .int .i64 q.c, .int .i64 q.d] := by rw [HV.out]; exact Blk.new w1 [.int .i64 q.a, .int .i64 q.b, .int .i64 q.c, .int .i64 q.d] _
 have hBV := bel_step hB1 hbV
 have c0 := Y0.cell 0 (by simp)
 simp only [List.getElem_cons_zero] at c0
 clear X0 hb1 hbV hB0 hB1 cB
 go_wp2_with fail
 rw [← HV.out]
 refine (cS _).mono ?_
 rintro e w2 ⟨rfl, rfl⟩
 clear cS c0 Y0 l0
 obtain ⟨U, HU⟩ : ∃ U, Hid (U = w2.alloc (.cells #[] 61)) := ⟨_, (rfl : w2.alloc (.cells #[] 61) = _)⟩
 have hbU : Bel w2 U := by rw [HU.out]; exact bel_alloc (Bel.refl _) _
 have O0 : U.ownsRow w2.heap.size 61 2 (.slice (some ⟨w2.heap.size, 0, none⟩) 0 0) 0 [] := by
  have h := World.ownsRow_lit (base := w2.heap.size) (e := 61) (size := 2) w2 #[] 0 (Nat.le_refl _) (Nat.zero_le _) rfl
  rw [HU.out]
  exact h
 have G0 : GrP w2.heap.size U (.slice (some ⟨w2.heap.size, 0, none⟩) 0 0) (cpL PX PY 0) (fun _ => List.replicate 2 (.bool false)) := ⟨O0, fun _ => by simp, fun i h => absurd h (Nat.not_lt_zero _), fun i h => absurd h (Nat.not_lt_zero _), by simp [cpL]⟩
 have HbU : Hid (Bel w2 U) := hbU
 have n2 := hBV.out.size
 clear O0 hbU
 go_wp2
 rw [← HU.out]
 go_loopw [7, 8, 9] (fun o i _ wr => ∃ (k : Nat) (R : Nat → List Value), k ≤ n ∧ i = .int .i64 k ∧ (∀ j, j < k → ptB q (X j) (Y j) = true) ∧ GrP w2.heap.size wr o (cpL PX PY k) R ∧ Bel w2 wr) (fun _ i _ _ => n - (intOf i).toNat)
 case atStart => exact ⟨0, _, Nat.zero_le _, rfl, fun j hj => absurd hj (Nat.not_lt_zero _), G0, HbU.out⟩
 case round =>
  clear G0
  obtain ⟨k, R, hk, rfl, hall, hG, hBr⟩ := hrel
  obtain ⟨va, vc, rfl⟩ := own_shape hG.own
  have HA : Hid (∀ j, j < k → ptB q (X j) (Y j) = true) := hall
  have hmk := cpL_len PX PY k
  obtain ⟨m, hm⟩ : ∃ m, (cpL PX PY k).length = m := ⟨_, rfl⟩
  have Hm : Hid ((cpL PX PY k).length = m) := hm
  have HG : Hid (GrP w2.heap.size wr (.slice va m vc) (cpL PX PY k) R) := by rw [← hm]; exact hG
  rw [hm] at hmk ⊢
  clear hm
  clear hall hG
  have hBw := bel_step hBV hBr
  have VB := YB.bel hBr
  by_cases hlt : k < n
  ·rcases hP.bel hBw with h | ⟨b, off, rfl, h2, h3⟩
   ·omega
   obtain ⟨cx, cy⟩ := h3 k hlt
   obtain ⟨u, Hu⟩ : ∃ u, Hid (X k = u) := ⟨_, (rfl : X k = _)⟩
   obtain ⟨v, Hv⟩ : ∃ u, Hid (Y k = u) := ⟨_, (rfl : Y k = _)⟩
   rw [Hu.out] at cx; rw [Hv.out] at cy
   have hlt' : (k : Int) < (n : Int) := by omega
   have hR : ∀ w', Bel wr w' → w'.cell? ⟨b, off + k * 2, none⟩ = some (.int .i64 u) ∧ w'.cell? ⟨b, off + k * 2 + 1, none⟩ = some (.int .i64 v) ∧ w'.cell? ⟨w1.heap.size, 0, none⟩ = some (.int .i64 q.a) ∧ w'.cell? ⟨w1.heap.size, 1, none⟩ = some (.int .i64 q.b) ∧ w'.cell? ⟨w1.heap.size, 2, none⟩ = some (.int .i64 q.c) ∧ w'.cell? ⟨w1.heap.size, 3, none⟩ = some (.int .i64 q.d) :=
    fun w' h => ⟨bel_cellM h h2 cx, bel_cellM h h2 cy, (VB.bel h).cell 0 (by simp), (VB.bel h).cell 1 (by simp), (VB.bel h).cell 2 (by simp), (VB.bel h).cell 3 (by simp)⟩
   have g0 : Bel wr wr := Bel.refl _
   clear h3
   go_wp2
   go_region_held3 (fun w' => Bel wr w') (with_reducible (repeat (first | exact g0 | refine Bel.drew ?_ | assumption | refine bel_then (by assumption) ?_)))
    (first
     | (go_at_call 50; refine (l2In_any q _ _ _).mono ?_; rintro e w' ⟨rfl, hbk⟩))
   have hH : Bel wr w' := by assumption
   cases hp : ptB q u v
   ·obtain rfl := HLn.out (inB_at hlt (by rw [Hu.out, Hv.out]; exact hp))
    have hBx := bel_step hBw hH
    clear hR HG
    go_wp2
    go_ret
    exact ⟨_, ⟨_, rfl⟩, [], Sl.nil, Fresh.nil _ _, bel_alloc hBx _⟩
   ·have HP : Hid (ptB q (X k) (Y k) = true) := by rw [Hu.out, Hv.out]; exact hp
    obtain ⟨⟨g1, g2, g3, g4⟩, ⟨g5, g6, g7, g8⟩⟩ := HT.out u v hp
    have q1 := qz_bd s1 g2 g3
    have q2 := qz_bd s1 g6 g7
    have e1 : ((u - q.a) * 4096).tdiv (s : Int) = qz q.a s u := Int.tdiv_eq_ediv_of_nonneg (Int.mul_nonneg (by omega) (by decide))
    have e2 : ((v - q.b) * 4096).tdiv (s : Int) = qz q.b s v := Int.tdiv_eq_ediv_of_nonneg (Int.mul_nonneg (by omega) (by decide))
    obtain ⟨m1, hm1⟩ : ∃ t, qz q.a s u = t := ⟨_, rfl⟩
    obtain ⟨m2, hm2⟩ : ∃ t, qz q.b s v = t := ⟨_, rfl⟩
    rw [hm1] at q1 e1; rw [hm2] at q2 e2
    have HPX1 : Hid (PX k = m1) := (by rw [HX.out, Hu.out, hm1] : PX k = m1)
    have HPY1 : Hid (PY k = m2) := (by rw [HY.out, Hv.out, hm2] : PY k = m2)
    have hs0 : ¬ (s : Int) = 0 := by omega
    have hs1 : ¬ s = 0 := by omega
    obtain ⟨r1, r2, r3, r4, _⟩ := hR w' hH
    have hBx := bel_step hBw hH
    have VBx := VB.bel hH
    have b2x := bel_lt hH h2
    have v2x := VBx.lt
    have hHU := hH
    obtain ⟨O, HO⟩ : ∃ O, O = w' := ⟨_, rfl⟩
    subst HO
    have HGx : Hid (GrP w2.heap.size O (.slice va m vc) (cpL PX PY k) R) := HG.out.bel pqF.stays hH
    clear hR hm1 hm2 hp cx cy VB hH g0 HG
    go_wp2
    go_big_region
    obtain ⟨T, HT'⟩ : ∃ T, Hid (T = (O.alloc (.cells #[.int .i64 m1, .int .i64 m2] 61)).drew) := ⟨_, (rfl : (O.alloc (.cells #[.int .i64 m1, .int .i64 m2] 61)).drew = _)⟩
    have hbT : Bel O T := by rw [HT'.out]; exact Bel.drew (bel_alloc (Bel.refl _) _)
    have TP : Blk T O.heap.size [.int .i64 m1, .int .i64 m2] := by rw [HT'.out]; exact (Blk.new O [.int .i64 m1, .int .i64 m2] _).bel (Bel.drew (Bel.refl _))
    have hBT := bel_step hBx hbT
    have hBUT : Bel w2 T := bel_step (bel_step hBr hHU) hbT
    have HGt : Hid (GrP w2.heap.size T (.slice va m vc) (cpL PX PY k) R) := HGx.out.bel pqF.stays hbT
    have tl := TP.lt
    have t0 := TP.cell 0 (by simp)
    have t1 := TP.cell 1 (by simp)
    simp only [List.getElem_cons_zero, List.getElem_cons_succ] at t0 t1
    rw [← HT'.out]
    clear r1 r2 r3 r4 VBx b2x v2x HGx TP hbT hBx
    by_cases hk0 : k = 0
    ·obtain rfl : m = 0 := by omega
     have HKp : Hid (Kep PX PY k) := .inl hk0
     clear hk0
     go_wp2
     go_quiet (fail)
     obtain ⟨T2, HT2⟩ : ∃ V, Hid (V = T.drewN nq) := ⟨_, (rfl : T.drewN nq = _)⟩
     have hbT2 : Bel T T2 := by rw [HT2.out]; exact bel_drewN (Bel.refl _) _
     have HG2 : Hid (GrP w2.heap.size T2 (.slice va 0 vc) (cpL PX PY k) R) := HGt.out.bel pqF.stays hbT2
     have hBU2 := bel_step hBUT hbT2
     have t20 := bel_cellM hbT2 tl t0
     have t21 := bel_cellM hbT2 tl t1
     have tl2 := bel_lt hbT2 tl
     rw [← HT2.out]
     clear t0 t1 hbT2 HGt hBUT
     have hown2 := World.ownsRow.alloc HG2.out.own (.cells #[.int .i64 m1, .int .i64 m2] 61)
     rw [Hm.out] at hown2
     have HE : Hid (cpL PX PY (k + 1) = cpL PX PY k ++ [⟨m1, m2⟩]) := (by rw [cpL_yes HKp.out, HPX1.out, HPY1.out] : cpL PX PY (k + 1) = cpL PX PY k ++ [⟨m1, m2⟩])
     go_wp2_with (first
      | (at_builtin; refine wpList_append_lies _ rfl _ _ 54 rfl w2.heap.size 61 i0 (.agg #[.int .i64 0, .int .i64 0]) 2 16 Tryz.underlying54 hi0 hz0 hz1 hz2 rfl (by decide) _ _ _ rfl hown2 ⟨T2.heap.size, 0, none⟩ 1 1 [.int .i64 m1, .int .i64 m2] rfl rfl ?c1 ?c2 (by decide) ?c3 ?c4 ?c5 (T2.heap.size + 1) ?c6 ?_)
      | go_in)
     case c1 =>
      intro j u hj
      match j, hj with
      | 0, hj => simp at hj; subst hj; simp [Addr.add]
      | 1, hj => simp at hj; subst hj; simp [Addr.add]
     case c2 =>
      intro u hu
      simp at hu
      rcases hu with rfl | rfl <;> rfl
     case c3 => unfold maxLen; omega
     case c4 => omega
     case c5 => have := hBU2.out.size; simp; omega
     case c6 => simp
     intro g cap w5 hown' hgrow hat _
     have HG5 : Hid (∃ R', GrP w2.heap.size w5 (.slice (some ⟨g, 0, none⟩) 1 cap) (cpL PX PY (k + 1)) R') := by
      have hat' : (Value.slice va 0 vc).ownBlock = some g ∨ g = (T2.alloc (.cells #[.int .i64 m1, .int .i64 m2] 61)).heap.size := by simpa using hat
      have := Gr.add1 pqF (d := ⟨m1, m2⟩) HG2.out (bel_alloc (Bel.refl T2) (.cells #[.int .i64 m1, .int .i64 m2] 61)) ⟨⟨by show _ ≤ m1; omega, by show m1 ≤ _; omega⟩, ⟨by show _ ≤ m2; omega, by show m2 ≤ _; omega⟩⟩ hBU2.out.size (by rw [Hm.out]; exact hown') hgrow (hatT hat')
      rw [HE.out]
      exact this
     have hB5 : Bel w2 w5 := bel_grow (bel_alloc hBU2 _) hgrow (fun j e => (hown2.lt j e).1)
     clear hown' hgrow hown2 hat
     go_wp2
     go_roundw
     case rel =>
      obtain ⟨R', G'⟩ := HG5.out
      exact ⟨k + 1, R', by omega, by go_num, fun j hj => by (by_cases e : j = k); (subst e; exact HP.out); exact HA.out j (by omega), G', hB5⟩
     case measure => simp [intOf]; omega
    ·obtain ⟨j, hj⟩ : ∃ j, k = j + 1 := ⟨k - 1, by omega⟩
     have hmp := cpL_pos PX PY j
     rw [← hj, Hm.out] at hmp
     obtain ⟨t, ht⟩ : ∃ t, m = t + 1 := ⟨m - 1, by omega⟩
     have gd : ((m : Int) == 0) = false := by rw [ht]; simp; omega
     obtain ⟨p1, Hp1⟩ : ∃ x, Hid (PX j = x) := ⟨_, (rfl : PX j = _)⟩
     obtain ⟨p2, Hp2⟩ : ∃ x, Hid (PY j = x) := ⟨_, (rfl : PY j = _)⟩
     rcases GrP.place HGt.out with ⟨e0, e1⟩ | ⟨g, cap, e0, _, gl, _, _, _, gc⟩
     ·have := Hm.out
      rw [e1] at this
      simp at this
      omega
     obtain ⟨rfl, e9, rfl⟩ : va = some ⟨g, 0, none⟩ ∧ m = (cpL PX PY k).length ∧ vc = cap := by simpa using e0
     clear e9
     have gt : t < (cpL PX PY k).length := by rw [Hm.out, ht]; omega
     obtain ⟨y0, y1⟩ := gc t gt
     have hlast : (cpL PX PY k)[t] = ⟨p1, p2⟩ := by
      obtain ⟨l, hl⟩ := cpL_last PX PY j
      rw [← hj] at hl
      have hll : l.length = t := by have := Hm.out; rw [hl, List.length_append] at this; simp at this; omega
      subst hll
      simp [hl, Hp1.out, Hp2.out]
     rw [hlast] at y0 y1
     have mi1 : (m : Int) - 1 = (t : Int) := by omega
     have mi2 : (t : Int) < (m : Int) := by omega
     have mi3 : t < m := by omega
     have mi4 : (0 : Int) ≤ (t : Int) := by omega
     have heq := fun w => ptNe p1 p2 m1 m2 w
     have HKi : Hid (Kep PX PY k ↔ ¬ (p1 = m1 ∧ p2 = m2)) := by
      show _ ↔ _
      unfold Kep
      rw [hj, Nat.add_sub_cancel, ← hj, HPX1.out, HPY1.out, Hp1.out, Hp2.out]
      constructor
      ·rintro (h | h)
       ·omega
       ·exact fun hh => h ⟨hh.1.symm, hh.2.symm⟩
      ·exact fun h => .inr fun hh => h ⟨hh.1.symm, hh.2.symm⟩
     clear gc hlast hj ht e0
     by_cases hsame : p1 = m1 ∧ p2 = m2
     ·have HEn : Hid (cpL PX PY (k + 1) = cpL PX PY k) := cpL_no (fun h => HKi.out.1 h hsame)
      rw [pt_same hsame, Bool.not_true] at heq
      go_wp2
      go_quiet (fail)
      obtain ⟨T2, HT2⟩ : ∃ V, Hid (V = T.drewN nq) := ⟨_, (rfl : T.drewN nq = _)⟩
      have hbT2 : Bel T T2 := by rw [HT2.out]; exact bel_drewN (Bel.refl _) _
      have HG2 : Hid (GrP w2.heap.size T2 (.slice (some ⟨g, 0, none⟩) m vc) (cpL PX PY k) R) := HGt.out.bel pqF.stays hbT2
      have hBU2 := bel_step hBUT hbT2
      have t20 := bel_cellM hbT2 tl t0
      have t21 := bel_cellM hbT2 tl t1
      have tl2 := bel_lt hbT2 tl
      rw [← HT2.out]
      clear t0 t1 hbT2 HGt hBUT
      go_wp2
      go_roundw
      case rel => exact ⟨k + 1, R, by omega, by go_num, fun j hj => by (by_cases e : j = k); (subst e; exact HP.out); exact HA.out j (by omega), by rw [HEn.out]; exact HG2.out, hBU2⟩
      case measure => simp [intOf]; omega
     ·have HKp : Hid (Kep PX PY k) := HKi.out.2 hsame
      rw [pt_diff hsame, Bool.not_false] at heq
      go_wp2
      go_quiet (fail)
      obtain ⟨T2, HT2⟩ : ∃ V, Hid (V = T.drewN nq) := ⟨_, (rfl : T.drewN nq = _)⟩
      have hbT2 : Bel T T2 := by rw [HT2.out]; exact bel_drewN (Bel.refl _) _
      have HG2 : Hid (GrP w2.heap.size T2 (.slice (some ⟨g, 0, none⟩) m vc) (cpL PX PY k) R) := HGt.out.bel pqF.stays hbT2
      have hBU2 := bel_step hBUT hbT2
      have t20 := bel_cellM hbT2 tl t0
      have t21 := bel_cellM hbT2 tl t1
      have tl2 := bel_lt hbT2 tl
      rw [← HT2.out]
      clear t0 t1 hbT2 HGt hBUT
      have hown2 := World.ownsRow.alloc HG2.out.own (.cells #[.int .i64 m1, .int .i64 m2] 61)
      rw [Hm.out] at hown2
      have HE : Hid (cpL PX PY (k + 1) = cpL PX PY k ++ [⟨m1, m2⟩]) := (by rw [cpL_yes HKp.out, HPX1.out, HPY1.out] : cpL PX PY (k + 1) = cpL PX PY k ++ [⟨m1, m2⟩])
      go_wp2_with (first
       | (at_builtin; refine wpList_append_lies _ rfl _ _ 54 rfl w2.heap.size 61 i0 (.agg #[.int .i64 0, .int .i64 0]) 2 16 Tryz.underlying54 hi0 hz0 hz1 hz2 rfl (by decide) _ _ _ rfl hown2 ⟨T2.heap.size, 0, none⟩ 1 1 [.int .i64 m1, .int .i64 m2] rfl rfl ?c1 ?c2 (by decide) ?c3 ?c4 ?c5 (T2.heap.size + 1) ?c6 ?_)
       | go_in)
      case c1 =>
       intro j u hj
       match j, hj with
       | 0, hj => simp at hj; subst hj; simp [Addr.add]
       | 1, hj => simp at hj; subst hj; simp [Addr.add]
      case c2 =>
       intro u hu
       simp at hu
       rcases hu with rfl | rfl <;> rfl
      case c3 => unfold maxLen; omega
      case c4 => omega
      case c5 => have := hBU2.out.size; simp; omega
      case c6 => simp
      intro g' cap' w5 hown' hgrow hat _
      have HG5 : Hid (∃ R', GrP w2.heap.size w5 (.slice (some ⟨g', 0, none⟩) (m + 1) cap') (cpL PX PY (k + 1)) R') := by
       have hat' : (Value.slice (some ⟨g, 0, none⟩) m vc).ownBlock = some g' ∨ g' = (T2.alloc (.cells #[.int .i64 m1, .int .i64 m2] 61)).heap.size := by simpa using hat
       have := Gr.add1 pqF (d := ⟨m1, m2⟩) HG2.out (bel_alloc (Bel.refl T2) (.cells #[.int .i64 m1, .int .i64 m2] 61)) ⟨⟨by show _ ≤ m1; omega, by show m1 ≤ _; omega⟩, ⟨by show _ ≤ m2; omega, by show m2 ≤ _; omega⟩⟩ hBU2.out.size (by rw [Hm.out]; exact hown') hgrow (hatT hat')
       rw [HE.out]
       exact this
      have hB5 : Bel w2 w5 := bel_grow (bel_alloc hBU2 _) hgrow (fun j e => (hown2.lt j e).1)
      clear hown' hgrow hown2 hat
      go_wp2
      go_roundw
      case rel =>
       obtain ⟨R', G'⟩ := HG5.out
       exact ⟨k + 1, R', by omega, by go_num, fun j hj => by (by_cases e : j = k); (subst e; exact HP.out); exact HA.out j (by omega), G', hB5⟩
      case measure => simp [intOf]; omega
  ·obtain rfl : n = k := by omega
   obtain rfl := HLy.out (inB_true HA.out)
   have HO := Gr.out pqF.stays HG.out
   obtain ⟨a', c', bs', e', hS, hMi⟩ := HO
   obtain ⟨rfl, e0, rfl⟩ : va = a' ∧ m = (cpL PX PY n).length ∧ vc = c' := by simpa using e'
   have HS : Hid (PtL wr va (cpL PX PY n) bs') := hS
   clear hS e' HG
   subst e0
   go_wp2
   go_ret
   exact ⟨va, ⟨vc, rfl⟩, bs', HS.out, hMi.fresh n2, hBw⟩

end Go.Proofs.YtldfcnlhjjiihaaGreat
