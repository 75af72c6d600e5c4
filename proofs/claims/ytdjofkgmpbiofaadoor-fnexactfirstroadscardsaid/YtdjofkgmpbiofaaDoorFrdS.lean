/-
  FirstRoads in the model: contract, once that of the model's search is known.
-/
import Derived.Test.YtdjofkgmpbiofaaDoorGQ
import Derived.Test.YtdjofkgmpbiofaaDoorGS
import Derived.Test.YtdjofkgmpbiofaaDoorGI
namespace Go.Proofs.YtdjofkgmpbiofaaDoor
open Go.RowKit Go.Maps

theorem l10SpotIs_r (i : Int) (a0 : Option Addr) (n0 c0 : Nat) (a1 : Option Addr) (n1 c1 : Nat) (a2 : Option Addr) (n2 c2 : Nat) (r : Bool) (w : World) (h : inN n0 i = r) :
    Calls Tryd.prog 20 #[gphV a0 n0 c0 a1 n1 c1 a2 n2 c2, .int .i64 i] w fun e w' => e = .returned (.bool r) ∧ Bel w w' := by
  have hB := bel_alloc (Bel.refl w) (.cells #[.slice a0 n0 c0, .slice a1 n1 c1, .slice a2 n2 c2] 34)
  by_cases h0 : 0 ≤ i
  · by_cases h1 : i < (n0 : Int)
    · obtain rfl : r = true := by rw [← h]; exact inN_iff.2 ⟨h0, h1⟩
      clear h
      go_enter Tryd.func20, Tryd.ntmps20
      go_wp2
      go_ret
      exact ⟨rfl, hB⟩
    · obtain rfl : r = false := by rw [← h]; exact inN_not.2 (by omega)
      clear h
      go_enter Tryd.func20, Tryd.ntmps20
      go_wp2
      go_ret
      exact ⟨rfl, hB⟩
  · obtain rfl : r = false := by rw [← h]; exact inN_not.2 (by omega)
    clear h
    go_enter Tryd.func20, Tryd.ntmps20
    go_wp2
    go_ret
    exact ⟨rfl, hB⟩

/-- The contract of l10Back. -/
def BakC : Prop := ∀ (a0 : Option Addr) (n0 c0 : Nat) (a1 : Option Addr) (n1 c1 : Nat) (a2 : Option Addr) (n2 c2 : Nat) (g : GraphD) (b0 b1 b2 : List Nat) (p : Nat) (w : World), SpotL w a0 g.places b0 → RoadL w a1 g.roads b1 → BanL w a2 g.bans b2 → g.places.length = n0 → g.roads.length = n1 → g.bans.length = n2 → graphP g →
    Calls Tryd.prog 34 #[gphV a0 n0 c0 a1 n1 c1 a2 n2 c2, .int .i64 (p : Int)] w fun e w' => BakOut w g p e w'
theorem rest_fld (a : Option Addr) (n c : Nat) (b : Option Addr) (m d : Nat) (w : World) : (Instr.field 71 (.agg #[.slice a n c, .slice b m d]) 0).run Tryd.prog w = .ok (.slice a n c) w := by kernel_rfl
theorem tmV_ints {S : SrS} {g : GraphD} {st : Int} {D : List Nat} {s : Mst} (h : MJ S g st D s) (h0 : s.op = []) : tmV s.dl = intsV (frL S.n1 S.back g st) := by
  rw [← h.list h0]
  simp [tmV, intsV]

set_option maxRecDepth 100000 in
set_option maxHeartbeats 2000000 in
theorem specFirstRoads_of (hBk : BakC) (v : Value) (g : GraphD) (bs : List Nat) (x : Int) (w : World) (hV : GphV w v g bs) (hQ : GphQ g) :
    Calls Tryd.prog 14 #[v, .int .i64 x] w fun e w' => ∃ v', e = .returned v' ∧ OwnI w.heap.size w' v' (frQ g x) ∧ Bel w w' := by
  have HBk : Hid BakC := hBk
  have hV' := hV
  obtain ⟨a0, c0, a1, c1, a2, c2, b0, b1, b2, _, rfl, t0, t1, t2⟩ := hV
  obtain ⟨n0, H0⟩ : ∃ n, Hid (g.places.length = n) := ⟨_, (rfl : g.places.length = _)⟩
  obtain ⟨n1, H1⟩ : ∃ n, Hid (g.roads.length = n) := ⟨_, (rfl : g.roads.length = _)⟩
  obtain ⟨n2, H2⟩ : ∃ n, Hid (g.bans.length = n) := ⟨_, (rfl : g.bans.length = _)⟩
  rw [H0.out, H1.out, H2.out] at hV' ⊢
  obtain ⟨W, HW⟩ : ∃ W, Hid (W = w.alloc (.cells #[.slice a0 n0 c0, .slice a1 n1 c1, .slice a2 n2 c2] 34)) := ⟨_, (rfl : w.alloc (.cells #[.slice a0 n0 c0, .slice a1 n1 c1, .slice a2 n2 c2] 34) = _)⟩
  have hBW : Bel w W := by rw [HW.out]; exact bel_alloc (Bel.refl _) _
  have XG : Blk W w.heap.size [.slice a0 n0 c0, .slice a1 n1 c1, .slice a2 n2 c2] := by rw [HW.out]; exact Blk.new w [.slice a0 n0 c0, .slice a1 n1 c1, .slice a2 n2 c2] _
  obtain ⟨R, HR⟩ : ∃ R, Hid (frQ g x = R) := ⟨_, (rfl : frQ g x = _)⟩
  rw [HR.out]
  have hGr : ∀ r, bP (graphP g) = r → Calls Tryd.prog 19 #[gphV a0 n0 c0 a1 n1 c1 a2 n2 c2] W fun e w2 => e = .returned (.bool r) ∧ Bel W w2 := fun r hr => by
    rw [← hr]; exact specGraphOk_any _ g bs _ (hV'.bel hBW) hQ
  have z0 : W.cell? ⟨w.heap.size, 0, none⟩ = some (.slice a0 n0 c0) := XG.cell 0 (by simp)
  have z1 : W.cell? ⟨w.heap.size, 1, none⟩ = some (.slice a1 n1 c1) := XG.cell 1 (by simp)
  have z2 : W.cell? ⟨w.heap.size, 2, none⟩ = some (.slice a2 n2 c2) := XG.cell 2 (by simp)
  have zl := XG.lt
  have HXG : Hid (Blk W w.heap.size [.slice a0 n0 c0, .slice a1 n1 c1, .slice a2 n2 c2]) := XG
  clear XG
  by_cases hP : graphP g
  rotate_left
  · have HF : Hid (R = []) := (by rw [← HR.out]; exact frQ_no (fun h => hP h.1) : R = [])
    have hG := hGr false (bP_false hP)
    clear hGr
    go_enter Tryd.func14, Tryd.ntmps14
    go_wp2_with fail
    rw [← HW.out]
    refine hG.mono ?_
    rintro e w1 ⟨rfl, hb1⟩
    clear z0 z1 z2 zl hG
    go_wp2
    go_ret
    exact ⟨_, rfl, by rw [HF.out]; exact World.ownsRow_lit w1 #[] 0 (bel_step hBW hb1).out.size (Nat.zero_le _) rfl, bel_alloc (bel_step hBW hb1) _⟩
  have HP : Hid (graphP g) := hP
  have hG := hGr true (bP_true hP)
  have m1 : n1 ≤ 8000 := by rw [← H1.out]; exact hP.1.2.1
  clear hGr hP
  rcases Bool.eq_false_or_eq_true (inN n0 x) with hx | hx
  rotate_left
  · have HF : Hid (R = []) := (by rw [← HR.out]; exact frQ_no (fun h => by have := h.2; rw [H0.out, hx] at this; cases this) : R = [])
    go_enter Tryd.func14, Tryd.ntmps14
    go_wp2_with fail
    rw [← HW.out]
    refine hG.mono ?_
    rintro e w1 ⟨rfl, hb1⟩
    have XG1 := HXG.out.bel hb1
    have y0 : w1.cell? ⟨w.heap.size, 0, none⟩ = some (.slice a0 n0 c0) := XG1.cell 0 (by simp)
    have y1 : w1.cell? ⟨w.heap.size, 1, none⟩ = some (.slice a1 n1 c1) := XG1.cell 1 (by simp)
    have y2 : w1.cell? ⟨w.heap.size, 2, none⟩ = some (.slice a2 n2 c2) := XG1.cell 2 (by simp)
    have yl := XG1.lt
    clear z0 z1 z2 zl hG XG1
    go_wp2_with fail
    refine (l10SpotIs_r x _ _ _ _ _ _ _ _ _ false _ hx).mono ?_
    rintro e w2 ⟨rfl, hb2⟩
    have hB2 := bel_step hBW (bel_step hb1 hb2)
    clear y0 y1 y2 yl hb1 hb2
    go_wp2
    go_ret
    exact ⟨_, rfl, by rw [HF.out]; exact World.ownsRow_lit w2 #[] 0 hB2.out.size (Nat.zero_le _) rfl, bel_alloc hB2 _⟩
  obtain ⟨p, hp, rfl⟩ := inN_nat hx
  have HF : Hid (R = frL n1 true g (p : Int)) := (by rw [← HR.out, frQ_yes HP.out (by rw [H0.out]; exact hx), H1.out] : R = frL n1 true g (p : Int))
  obtain ⟨i0, hi0, hz0, hz1, hz2⟩ := info_parts infoI64
  have HT : Hid (SpotL w a0 g.places b0 ∧ RoadL w a1 g.roads b1 ∧ BanL w a2 g.bans b2) := ⟨t0, t1, t2⟩
  clear t0 t1 t2 hV'
  go_enter Tryd.func14, Tryd.ntmps14
  go_wp2_with fail
  rw [← HW.out]
  refine hG.mono ?_
  rintro e w1 ⟨rfl, hb1⟩
  have XG1 := HXG.out.bel hb1
  have y0 : w1.cell? ⟨w.heap.size, 0, none⟩ = some (.slice a0 n0 c0) := XG1.cell 0 (by simp)
  have y1 : w1.cell? ⟨w.heap.size, 1, none⟩ = some (.slice a1 n1 c1) := XG1.cell 1 (by simp)
  have y2 : w1.cell? ⟨w.heap.size, 2, none⟩ = some (.slice a2 n2 c2) := XG1.cell 2 (by simp)
  have yl := XG1.lt
  clear z0 z1 z2 zl hG
  go_wp2_with fail
  refine (l10SpotIs_r (p : Int) _ _ _ _ _ _ _ _ _ true _ hx).mono ?_
  rintro e w2 ⟨rfl, hb2⟩
  obtain ⟨U, HU⟩ : ∃ X, Hid (X = w2.alloc (.cells #[] 2)) := ⟨_, (rfl : w2.alloc (.cells #[] 2) = _)⟩
  have hbU : Bel w2 U := by rw [HU.out]; exact bel_alloc (Bel.refl _) _
  have hown0 : U.ownsRow w2.heap.size 2 1 (.slice (some ⟨w2.heap.size, 0, none⟩) 0 0) 0 [] := by
    rw [HU.out]
    exact World.ownsRow_lit w2 #[] 0 (Nat.le_refl _) (Nat.zero_le _) rfl
  have hBU := bel_step hBW (bel_step hb1 (bel_step hb2 hbU))
  have XU := (XG1.bel hb2).bel hbU
  have u0 : U.cell? ⟨w.heap.size, 0, none⟩ = some (.slice a0 n0 c0) := XU.cell 0 (by simp)
  have u1 : U.cell? ⟨w.heap.size, 1, none⟩ = some (.slice a1 n1 c1) := XU.cell 1 (by simp)
  have u2 : U.cell? ⟨w.heap.size, 2, none⟩ = some (.slice a2 n2 c2) := XU.cell 2 (by simp)
  have ul := XU.lt
  have hw2 : w.heap.size ≤ w2.heap.size := (bel_step hBW (bel_step hb1 hb2)).out.size
  obtain ⟨o2, Ho2⟩ : ∃ n, Hid (w2.heap.size = n) := ⟨_, (rfl : w2.heap.size = _)⟩
  rw [Ho2.out] at hown0 hw2
  have cB := HBk.out a0 n0 c0 a1 n1 c1 a2 n2 c2 g b0 b1 b2 p U (HT.out.1.bel spotE hBU) (HT.out.2.1.bel roadE hBU) (HT.out.2.2.bel banE hBU) H0.out H1.out H2.out HP.out
  have HcB : Hid (Calls Tryd.prog 34 #[gphV a0 n0 c0 a1 n1 c1 a2 n2 c2, .int .i64 (p : Int)] U fun e w' => BakOut U g p e w') := cB
  have HBU : Hid (Bel w U) := hBU
  have X2 := XG1.bel hb2
  have x0 : w2.cell? ⟨w.heap.size, 0, none⟩ = some (.slice a0 n0 c0) := X2.cell 0 (by simp)
  have x1 : w2.cell? ⟨w.heap.size, 1, none⟩ = some (.slice a1 n1 c1) := X2.cell 1 (by simp)
  have x2 : w2.cell? ⟨w.heap.size, 2, none⟩ = some (.slice a2 n2 c2) := X2.cell 2 (by simp)
  have xl := X2.lt
  have xl1 : w.heap.size < w2.heap.size + 1 := by omega
  have HRl : Hid (R.length = n1) := (by rw [HF.out, frL_len] : R.length = n1)
  clear y0 y1 y2 yl XG1 XU cB hb1 hb2 hbU hBU X2 u0 u1 u2 ul
  go_wp2_with fail
  rw [← HU.out, Ho2.out]
  refine HcB.out.mono ?_
  rintro e w3 ⟨⟨Bt, Bc, D, s, rfl, hT, _, hMJ, h0, l1, _, _, hb3⟩⟩
  rw [H1.out] at hMJ
  rw [H1.out]
  have hTV : tmV s.dl = intsV R := by rw [HF.out]; exact tmV_ints hMJ h0
  rw [hTV] at hT
  have hown3 := own_bel hown0 hb3
  have hB3 := bel_step HBU.out hb3
  have hs3 : o2 ≤ w3.heap.size := Nat.le_trans (Nat.le_of_lt (World.ownsRow.lt hown0 o2 rfl).2) hb3.out.size
  have hfl := fun w' => rest_fld (some ⟨Bt, 0, none⟩) n1 n1 (some ⟨Bc, 0, none⟩) n1 n1 w'
  clear hTV hMJ h0 x0 x1 x2 xl xl1 HcB
  by_cases hn : n1 = 0
  · subst hn
    have HE : Hid (R = []) := List.length_eq_zero_iff.1 HRl.out
    have hrun := fun ty => run_append_zero (P := Tryd.prog) (w := w3) o2 28 ty 2 i0 1 Tryd.underlying28 hi0 _ 0 [] hown3 (some ⟨Bt, 0, none⟩) 0
    go_wp2
    go_ret
    exact ⟨_, rfl, by rw [HE.out]; exact own_lo hown3 hw2, hB3⟩
  · have HN : Hid (∀ j u, (intsV R)[j]? = some u → w3.cell? (Addr.add ⟨Bt, 0, none⟩ j) = some u) := fun j u hu => by
      have hj : j < (intsV R).length := by
        rcases Nat.lt_or_ge j (intsV R).length with h | h
        · exact h
        · rw [List.getElem?_eq_none h] at hu; exact nomatch hu
      rw [List.getElem?_eq_getElem hj] at hu
      injection hu with hu
      rw [show Addr.add ⟨Bt, 0, none⟩ j = ⟨Bt, j, none⟩ by unfold Addr.add; split <;> simp_all, hT.cell j hj, hu]
    have HLn : Hid ((intsV R).length = n1) := (by unfold intsV; rw [List.length_map, HRl.out] : (intsV R).length = n1)
    have HOn : Hid (∀ u ∈ intsV R, u.oneCell' = true) := (fun u hu => by unfold intsV at hu; obtain ⟨i, _, rfl⟩ := List.mem_map.1 hu; rfl : ∀ u ∈ intsV R, u.oneCell' = true)
    clear hT
    go_wp2_with (first
      | (at_builtin; refine wpList_append_lies _ rfl _ _ 28 rfl o2 2 i0 (.int .i64 0) 1 8 Tryd.underlying28 hi0 hz0 hz1 hz2 rfl (by decide) _ _ _ rfl hown3 ⟨Bt, 0, none⟩ n1 n1 (intsV R) rfl (by rw [HLn.out]; omega) HN.out HOn.out (by omega) (by unfold maxLen; omega) (by omega) hs3 w3.heap.size rfl ?_)
      | go_in)
    intro g2 cap2 w4 hown2 hgrow hat _
    have hB4 : Bel w w4 := bel_grow hB3 hgrow (fun j e => by simp [Value.ownBlock] at e; omega)
    have HO : Hid (OwnI w.heap.size w4 (.slice (some ⟨g2, 0, none⟩) n1 cap2) R) := (by
      unfold OwnI
      rw [HRl.out]
      exact own_lo (by simpa using hown2) hw2 : OwnI w.heap.size w4 (.slice (some ⟨g2, 0, none⟩) n1 cap2) R)
    clear hown2 hgrow hat hown3
    go_wp2
    go_ret
    exact ⟨_, by first | rfl | (congr 2; omega) | simp, HO.out, hB4⟩
end Go.Proofs.YtdjofkgmpbiofaaDoor
