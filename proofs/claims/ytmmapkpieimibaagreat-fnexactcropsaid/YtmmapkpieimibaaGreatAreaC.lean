/-
  Contract of what is asked of an area: for every area.
-/
import Derived.Test.YtmmapkpieimibaaGreatAllC
import Derived.Test.YtmmapkpieimibaaGreatGrowC
namespace Go.Proofs.YtmmapkpieimibaaGreat
open Go.RowKit Go.Maps

theorem areaP_few {n : Nat} {I : Nat → Int} {ps : List PartD} (h : ¬ (1 ≤ ps.length ∧ ps.length ≤ 30)) : bP (AreaP n I ps) = false := bP_false fun hh => h ⟨hh.1, hh.2.1⟩
theorem areaP_no {n : Nat} {I : Nat → Int} {ps : List PartD} {k : Nat} (hk : k < ps.length) (h : ¬ HasI n I ps[k].way) : bP (AreaP n I ps) = false := bP_false fun hh => h (hh.2.2 k hk).1
/-- The ways of the first k parts. -/
def waysTo (ps : List PartD) (k : Nat) (y : Int) : Prop := ∃ j, ∃ h : j < ps.length, j < k ∧ ps[j].way = y
theorem areaP_two {n : Nat} {I : Nat → Int} {ps : List PartD} {k : Nat} (hk : k < ps.length) (h : waysTo ps k ps[k].way) : bP (AreaP n I ps) = false :=
  bP_false fun hh => by
    obtain ⟨j, hj, hjk, e⟩ := h
    exact (hh.2.2 k hk).2 j hjk e
theorem ints_one (w : World) (x : Int) (hx : In64 x) (t : TypeId) : Ints (w.alloc (.cells #[.int .i64 x] t)) (some ⟨w.heap.size, 0, none⟩) [x] [w.heap.size] :=
  .inr ⟨w.heap.size, 0, fun _ => [], rfl, by simp, by simp, fun i hi => by
    obtain rfl : i = 0 := by simp at hi; omega
    exact ⟨rfl, hx, by simp [go_sem]⟩⟩

set_option maxRecDepth 100000 in
set_option maxHeartbeats 4000000 in
theorem areaOk_any (an : Option Addr) (nn cn : Nat) (aw : Option Addr) (nw cw : Nat) (aa : Option Addr) (na ca : Nat) (bN bW : Nat) (id : Int) (a1 : Option Addr) (n1 c1 : Nat) (a2 : Option Addr) (n2 c2 : Nat)
    (ps : List PartD) (bs : List Nat) (nm n : Nat) (I : Nat → Int) (g : Int → Option Int) (w : World) (hI : Parts w a2 ps bs) (hn : ps.length = n2) (hm : n2 ≤ 1048576) (hM : MapAt w bW nm g) (hg : ∀ x, (g x).isSome = bP (HasI n I x)) :
    Calls Tryz.prog 116 #[chV an nn cn aw nw cw aa na ca bN bW, .agg #[.int .i64 id, .slice a1 n1 c1, .slice a2 n2 c2]] w fun e w' => e = .returned (.bool (bP (AreaP n I ps))) ∧ Bel w w' := by
  have Hn : Hid (ps.length = n2) := hn
  have Hg : Hid (∀ x, (g x).isSome = bP (HasI n I x)) := hg
  have hmm := @run_makeMap Tryz.prog
  clear hn hg
  by_cases h2 : 1 ≤ n2
  · by_cases h3 : n2 ≤ 30
    · go_enter Tryz.func116, Tryz.ntmps116
      go_wp2
      obtain ⟨V, HV⟩ : ∃ V, Hid (V = (w.alloc (.cells #[.slice an nn cn, .slice aw nw cw, .slice aa na ca, .map (some bN), .map (some bW)] 81)).alloc (.cells #[.int .i64 id, .slice a1 n1 c1, .slice a2 n2 c2] 98)) := ⟨_, (rfl : _ = _)⟩
      have hBV : Bel w V := by rw [HV.out]; exact bel_alloc (bel_alloc (Bel.refl _) _) _
      have hVs : V.heap.size = w.heap.size + 1 + 1 := by rw [HV.out]; simp
      have X0 : Blk V w.heap.size [.slice an nn cn, .slice aw nw cw, .slice aa na ca, .map (some bN), .map (some bW)] := by rw [HV.out]; exact (Blk.new w [.slice an nn cn, .slice aw nw cw, .slice aa na ca, .map (some bN), .map (some bW)] _).bel (bel_alloc (Bel.refl _) _)
      have X1 : Blk V (w.heap.size + 1) [.int .i64 id, .slice a1 n1 c1, .slice a2 n2 c2] := by rw [HV.out]; exact Blk.new1 w _ [.int .i64 id, .slice a1 n1 c1, .slice a2 n2 c2] _
      rw [← HV.out]
      have hS0 := SetAt.new V
      rw [hVs] at hS0
      obtain ⟨W, HW⟩ : ∃ W, Hid (W = V.alloc (.map #[] 0)) := ⟨_, (rfl : _ = _)⟩
      rw [← HW.out]
      rw [← HW.out] at hS0
      have hBW : Bel V W := by rw [HW.out]; exact bel_alloc (Bel.refl _) _
      have hB := bel_step hBV hBW
      have Y0 := X0.bel hBW
      have Y1 := X1.bel hBW
      have hM' := hM.bel hB
      have hI' := hI.bel partE hB
      have hbs : w.heap.size + 1 + 1 ∉ bs := fun h => by have := hI.lt partE _ h; omega
      have hbW : bW ≠ w.heap.size + 1 + 1 := by have := hM.lt; omega
      clear hM hI X0 X1 hBV hBW hVs HV HW
      go_loopw [7, 8, 9, 24] (fun _ _ _ i wr => ∃ k : Nat, k ≤ n2 ∧ i = .int .i64 k ∧ SetAt wr (w.heap.size + 1 + 1) k (waysTo ps k) ∧ (∀ j (h : j < ps.length), j < k → HasI n I ps[j].way ∧ ∀ k (hk : k < j), (ps[k]'(by omega)).way ≠ ps[j].way) ∧ W.grownBy wr (some (w.heap.size + 1 + 1))) (fun _ _ _ i _ => n2 - (intOf i).toNat)
      case atStart => exact ⟨0, Nat.zero_le _, rfl, by
          have e : waysTo ps 0 = fun _ => False := by funext y; simp [waysTo]
          rw [e]; exact hS0, fun j _ hj => absurd hj (Nat.not_lt_zero _), World.grownBy.refl _ _⟩
      case round =>
        obtain ⟨k, hk, rfl, hSk, hall, hgr⟩ := hrel
        have H : Hid (∀ j (h : j < ps.length), j < k → HasI n I ps[j].way ∧ ∀ k (hk : k < j), (ps[k]'(by omega)).way ≠ ps[j].way) := hall
        clear hall
        have Z0 := Y0.grown hgr (by omega)
        have Z1 := Y1.grown hgr (by omega)
        have z4 : wr.cell? ⟨w.heap.size, 4, none⟩ = some (.map (some bW)) := Z0.cell 4 (by simp)
        have z2 : wr.cell? ⟨w.heap.size + 1, 2, none⟩ = some (.slice a2 n2 c2) := Z1.cell 2 (by simp)
        have hBr : Bel w wr := bel_grow hB hgr (fun k e => by injection e with e; omega)
        have hSl := hSk.lt
        have hzl := Z0.lt
        have hzl1 := Z1.lt
        by_cases hlt : k < n2
        · have hkl : k < ps.length := by rw [Hn.out]; exact hlt
          obtain ⟨b, off, f, rfl, hb, hx⟩ := (hI'.grown partE hgr hbs).out hkl
          obtain ⟨_, ix, cx, ci⟩ := hx k hkl
          obtain ⟨x, Hx⟩ : ∃ x, Hid (x = ps[k].way) := ⟨_, (rfl : ps[k].way = _)⟩
          obtain ⟨y, Hy⟩ : ∃ y, Hid (y = ps[k].inner) := ⟨_, (rfl : ps[k].inner = _)⟩
          rw [← Hx.out] at cx ix
          rw [← Hy.out] at ci
          have hbp : Bel wr (wr.alloc (.cells #[.int .i64 x, .bool y] 70)) := bel_alloc (Bel.refl _) _
          have hlook := ((hM'.grown hgr hbW).bel hbp).look ix
          rw [Hg.out x] at hlook
          have hSp := hSk.bel hbp
          have hXp : Blk (wr.alloc (.cells #[.int .i64 x, .bool y] 70)) wr.heap.size [.int .i64 x, .bool y] := Blk.new wr [.int .i64 x, .bool y] _
          cases hp : bP (HasI n I x)
          · have HF : Hid (false = bP (AreaP n I ps)) := (areaP_no hkl (by rw [← Hx.out]; exact bP_not hp)).symm
            rw [hp] at hlook
            clear hx hI' Y0 Y1 Z0 Z1 hSk hSp hXp
            go_wp2
            go_ret
            exact ⟨ret_bl HF.out, bel_step hBr hbp⟩
          · rw [hp] at hlook
            cases hd : bP (waysTo ps k x)
            · have HA : Hid (HasI n I ps[k].way ∧ ∀ j (hj : j < k), (ps[j]'(by omega)).way ≠ ps[k].way) := ⟨by rw [← Hx.out]; exact bP_out hp, fun j hj e => bP_not hd ⟨j, by omega, hj, by rw [Hx.out]; exact e⟩⟩
              clear hx hI' Y0 Y1 Z0 Z1 hSk
              go_wp2_with fail
              refine (has_any _ _ _ _ _ hSp ix).mono ?_
              rintro e w1 ⟨rfl, hb1⟩
              rw [hd]
              have hX1 := hXp.bel hb1
              have e0 : w1.cell? ⟨wr.heap.size, 0, none⟩ = some (.int .i64 x) := hX1.cell 0 (by simp)
              have hS1 := (hSp.bel hb1).bel (bel_alloc (Bel.refl w1) (.cells #[.int .i64 x] 2))
              have hs1 := (hSp.bel hb1).lt
              have hB1 := bel_step hbp (bel_step hb1 (bel_alloc (Bel.refl w1) (.cells #[.int .i64 x] 2)))
              clear hlook hb hb1 hXp hX1 hSp z2 z4 cx ci
              go_wp2_with fail
              refine (add_any _ _ _ _ 1 _ [x] [w1.heap.size] _ hS1 (ints_one w1 x ix _) rfl (by decide) (by omega) (by simp; omega)).mono ?_
              rintro e w2 ⟨rfl, hS2, hg2⟩
              have HS2 : Hid (SetAt w2 (w.heap.size + 1 + 1) (k + 1) (waysTo ps (k + 1))) := by
                have e : (fun y => y ∈ [x] ∨ waysTo ps k y) = waysTo ps (k + 1) := by
                  funext y
                  simp only [List.mem_singleton, eq_iff_iff, waysTo]
                  constructor
                  · rintro (h | ⟨j, hj, hjk, h⟩)
                    · exact ⟨k, hkl, by omega, by rw [h]; exact Hx.out.symm⟩
                    · exact ⟨j, hj, by omega, h⟩
                  · rintro ⟨j, hj, hjk, h⟩
                    by_cases e : j = k
                    · subst e; exact .inl (by rw [← h]; exact Hx.out.symm)
                    · exact .inr ⟨j, hj, by omega, h⟩
                rw [e] at hS2
                exact hS2
              have hG2 := (grown_step hgr hB1).trans hg2
              clear hS1 hS2 hg2 hB1
              go_wp2
              go_roundw
              case rel => exact ⟨k + 1, by omega, by go_num, HS2.out, fun j h hj => by
                              (by_cases e : j = k)
                              · subst e; exact HA.out
                              · exact H.out j h (by omega), hG2⟩
              case measure => simp [intOf]; omega
            · have HF : Hid (false = bP (AreaP n I ps)) := (areaP_two hkl (by rw [← Hx.out]; exact bP_out hd)).symm
              clear hx hI' Y0 Y1 Z0 Z1 hSk
              go_wp2_with fail
              refine (has_any _ _ _ _ _ hSp ix).mono ?_
              rintro e w1 ⟨rfl, hb1⟩
              rw [hd]
              have hB1 := bel_step hBr (bel_step hbp hb1)
              go_wp2
              go_ret
              exact ⟨ret_bl HF.out, hB1⟩
        · have HT : Hid (true = bP (AreaP n I ps)) := (bP_true ⟨by rw [Hn.out]; exact h2, by rw [Hn.out]; exact h3, fun j h => H.out j h (by rw [Hn.out] at h; omega)⟩).symm
          go_wp2
          go_ret
          exact ⟨ret_bl HT.out, hBr⟩
    · have HF : Hid (false = bP (AreaP n I ps)) := (areaP_few (by rw [Hn.out]; omega)).symm
      go_enter Tryz.func116, Tryz.ntmps116
      go_wp2
      go_ret
      exact ⟨ret_bl HF.out, bel_alloc (bel_alloc (Bel.refl _) _) _⟩
  · have HF : Hid (false = bP (AreaP n I ps)) := (areaP_few (by rw [Hn.out]; omega)).symm
    go_enter Tryz.func116, Tryz.ntmps116
    go_wp2
    go_ret
    exact ⟨ret_bl HF.out, bel_alloc (bel_alloc (Bel.refl _) _) _⟩
end Go.Proofs.YtmmapkpieimibaaGreat
