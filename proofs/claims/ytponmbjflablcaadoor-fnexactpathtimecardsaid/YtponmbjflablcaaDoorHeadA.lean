/-
  Heading, in the program and in its model, for every two points.
-/
import Derived.Test.YtponmbjflablcaaDoorHeadP
namespace Go.Proofs.YtponmbjflablcaaDoor
open Go.RowKit

theorem specHeading_any (x0 y0 x1 y1 : Int) (w : World) :
    Calls Tryd.prog 64 #[pt x0 y0, pt x1 y1] w fun e w' => e = .returned (.int .i64 (headOf x0 y0 x1 y1)) ∧ Bel w w' := by
  by_cases h0 : pok x0 y0 = true
  · by_cases h1 : pok x1 y1 = true
    · by_cases hx : x0 = x1
      · subst hx
        by_cases hy : y0 = y1
        · subst hy
          rw [head_same]
          have hR := bx2_cells 79 w x0 y0 x0 y0
          go_enter Tryd.func64, Tryd.ntmps64
          go_wp2_with fail
          refine (specPointOk_any _ _ _).mono ?_
          rintro e w1 ⟨rfl, hb1⟩
          have g1 : Bel (bx2 79 w x0 y0 x0 y0) w1 := hb1
          clear hb1
          go_wp2_with fail
          refine (specPointOk_any _ _ _).mono ?_
          rintro e w2 ⟨rfl, hb2⟩
          have g2 : Bel (bx2 79 w x0 y0 x0 y0) w2 := bel_step g1 hb2
          clear hb2 g1
          go_wp2
          go_ret
          exact ⟨rfl, bel_step (bx2_bel 79 w x0 y0 x0 y0) g2⟩
        · rw [head_ok h0 h1 (by omega)]
          have he : (y0 == y1) = false := by simp; exact hy
          have hz : ab (x0 - x0) = 0 := by unfold ab; omega
          by_cases hs : 0 < y1 - y0
          · rw [wind_2 (by unfold ab; omega) (by unfold ab; omega) hs]
            exact specHeadZ_0 _ _ _ _ h0 h1 he hs
          · rw [wind_3 (by unfold ab; omega) (by unfold ab; omega) (by omega)]
            exact specHeadZ_1 _ _ _ _ h0 h1 he (by omega)
      · rw [head_ok h0 h1 (by omega)]
        have he : (x0 == x1) = false := by simp; exact hx
        by_cases hA : 5 * ab (y1 - y0) < 2 * ab (x1 - x0)
        · by_cases hs : 0 < x1 - x0
          · rw [wind_0 hA hs]; exact specHead_0 _ _ _ _ _ h0 h1 he hA hs
          · rw [wind_1 hA (by omega)]; exact specHead_1 _ _ _ _ _ h0 h1 he hA (by omega)
        · have hA : 2 * ab (x1 - x0) ≤ 5 * ab (y1 - y0) := by omega
          by_cases hB : 5 * ab (x1 - x0) < 2 * ab (y1 - y0)
          · by_cases hs : 0 < y1 - y0
            · rw [wind_2 hA hB hs]; exact specHead_2 _ _ _ _ _ h0 h1 he hA hB hs
            · have hs' : y1 - y0 < 0 := by unfold ab at hB; omega
              rw [wind_3 hA hB hs']; exact specHead_3 _ _ _ _ _ h0 h1 he hA hB hs'
          · have hB : 2 * ab (y1 - y0) ≤ 5 * ab (x1 - x0) := by omega
            by_cases hs : 0 < x1 - x0
            · by_cases ht : 0 < y1 - y0
              · rw [wind_4 hA hB hs ht]; exact specHead_4 _ _ _ _ _ h0 h1 he hA hB hs ht
              · have ht' : y1 - y0 < 0 := by unfold ab at hA; omega
                rw [wind_7 hA hB hs ht']; exact specHead_7 _ _ _ _ _ h0 h1 he hA hB hs ht'
            · have hs' : x1 - x0 < 0 := by omega
              by_cases ht : 0 < y1 - y0
              · rw [wind_5 hA hB hs' ht]; exact specHead_5 _ _ _ _ _ h0 h1 he hA hB hs' ht
              · have ht' : y1 - y0 < 0 := by unfold ab at hA; omega
                rw [wind_6 hA hB hs' ht']; exact specHead_6 _ _ _ _ _ h0 h1 he hA hB hs' ht'
    · have h1 : pok x1 y1 = false := by simpa using h1
      rw [head_not (.inr h1)]
      have hR := bx2_cells 79 w x0 y0 x1 y1
      go_enter Tryd.func64, Tryd.ntmps64
      go_wp2_with fail
      refine (specPointOk_any _ _ _).mono ?_
      rintro e w1 ⟨rfl, hb1⟩
      have g1 : Bel (bx2 79 w x0 y0 x1 y1) w1 := hb1
      go_wp2_with fail
      refine (specPointOk_any _ _ _).mono ?_
      rintro e w2 ⟨rfl, hb2⟩
      have g2 : Bel (bx2 79 w x0 y0 x1 y1) w2 := bel_step g1 hb2
      go_wp2
      go_ret
      exact ⟨rfl, bel_step (bx2_bel 79 w x0 y0 x1 y1) g2⟩
  · have h0 : pok x0 y0 = false := by simpa using h0
    rw [head_not (.inl h0)]
    have hR := bx2_cells 79 w x0 y0 x1 y1
    go_enter Tryd.func64, Tryd.ntmps64
    go_wp2_with fail
    refine (specPointOk_any _ _ _).mono ?_
    rintro e w1 ⟨rfl, hb1⟩
    have g1 : Bel (bx2 79 w x0 y0 x1 y1) w1 := hb1
    go_wp2
    go_ret
    exact ⟨rfl, bel_step (bx2_bel 79 w x0 y0 x1 y1) g1⟩

theorem heading_any (x0 y0 x1 y1 : Int) (w : World) (hT : Winds w) :
    Calls Tryd.prog 69 #[pt x0 y0, pt x1 y1] w fun e w' => e = .returned (.int .i64 (headOf x0 y0 x1 y1)) ∧ Bel w w' := by
  by_cases h0 : pok x0 y0 = true
  · by_cases h1 : pok x1 y1 = true
    · by_cases hx : x0 = x1
      · subst hx
        by_cases hy : y0 = y1
        · subst hy
          rw [head_same]
          have hR := bx2_cells 79 w x0 y0 x0 y0
          go_enter Tryd.func69, Tryd.ntmps69
          go_wp2_with fail
          refine (pointOk_any _ _ _).mono ?_
          rintro e w1 ⟨rfl, hb1⟩
          have g1 : Bel (bx2 79 w x0 y0 x0 y0) w1 := hb1
          clear hb1
          go_wp2_with fail
          refine (pointOk_any _ _ _).mono ?_
          rintro e w2 ⟨rfl, hb2⟩
          have g2 : Bel (bx2 79 w x0 y0 x0 y0) w2 := bel_step g1 hb2
          clear hb2 g1
          go_wp2
          go_ret
          exact ⟨rfl, bel_step (bx2_bel 79 w x0 y0 x0 y0) g2⟩
        · rw [head_ok h0 h1 (by omega)]
          have he : (y0 == y1) = false := by simp; exact hy
          have hz : ab (x0 - x0) = 0 := by unfold ab; omega
          by_cases hs : 0 < y1 - y0
          · rw [wind_2 (by unfold ab; omega) (by unfold ab; omega) hs]
            exact headZ_0 _ _ _ _ hT h0 h1 he hs
          · rw [wind_3 (by unfold ab; omega) (by unfold ab; omega) (by omega)]
            exact headZ_1 _ _ _ _ hT h0 h1 he (by omega)
      · rw [head_ok h0 h1 (by omega)]
        have he : (x0 == x1) = false := by simp; exact hx
        by_cases hA : 5 * ab (y1 - y0) < 2 * ab (x1 - x0)
        · by_cases hs : 0 < x1 - x0
          · rw [wind_0 hA hs]; exact head_0 _ _ _ _ _ hT h0 h1 he hA hs
          · rw [wind_1 hA (by omega)]; exact head_1 _ _ _ _ _ hT h0 h1 he hA (by omega)
        · have hA : 2 * ab (x1 - x0) ≤ 5 * ab (y1 - y0) := by omega
          by_cases hB : 5 * ab (x1 - x0) < 2 * ab (y1 - y0)
          · by_cases hs : 0 < y1 - y0
            · rw [wind_2 hA hB hs]; exact head_2 _ _ _ _ _ hT h0 h1 he hA hB hs
            · have hs' : y1 - y0 < 0 := by unfold ab at hB; omega
              rw [wind_3 hA hB hs']; exact head_3 _ _ _ _ _ hT h0 h1 he hA hB hs'
          · have hB : 2 * ab (y1 - y0) ≤ 5 * ab (x1 - x0) := by omega
            by_cases hs : 0 < x1 - x0
            · by_cases ht : 0 < y1 - y0
              · rw [wind_4 hA hB hs ht]; exact head_4 _ _ _ _ _ hT h0 h1 he hA hB hs ht
              · have ht' : y1 - y0 < 0 := by unfold ab at hA; omega
                rw [wind_7 hA hB hs ht']; exact head_7 _ _ _ _ _ hT h0 h1 he hA hB hs ht'
            · have hs' : x1 - x0 < 0 := by omega
              by_cases ht : 0 < y1 - y0
              · rw [wind_5 hA hB hs' ht]; exact head_5 _ _ _ _ _ hT h0 h1 he hA hB hs' ht
              · have ht' : y1 - y0 < 0 := by unfold ab at hA; omega
                rw [wind_6 hA hB hs' ht']; exact head_6 _ _ _ _ _ hT h0 h1 he hA hB hs' ht'
    · have h1 : pok x1 y1 = false := by simpa using h1
      rw [head_not (.inr h1)]
      have hR := bx2_cells 79 w x0 y0 x1 y1
      go_enter Tryd.func69, Tryd.ntmps69
      go_wp2_with fail
      refine (pointOk_any _ _ _).mono ?_
      rintro e w1 ⟨rfl, hb1⟩
      have g1 : Bel (bx2 79 w x0 y0 x1 y1) w1 := hb1
      go_wp2_with fail
      refine (pointOk_any _ _ _).mono ?_
      rintro e w2 ⟨rfl, hb2⟩
      have g2 : Bel (bx2 79 w x0 y0 x1 y1) w2 := bel_step g1 hb2
      go_wp2
      go_ret
      exact ⟨rfl, bel_step (bx2_bel 79 w x0 y0 x1 y1) g2⟩
  · have h0 : pok x0 y0 = false := by simpa using h0
    rw [head_not (.inl h0)]
    have hR := bx2_cells 79 w x0 y0 x1 y1
    go_enter Tryd.func69, Tryd.ntmps69
    go_wp2_with fail
    refine (pointOk_any _ _ _).mono ?_
    rintro e w1 ⟨rfl, hb1⟩
    have g1 : Bel (bx2 79 w x0 y0 x1 y1) w1 := hb1
    go_wp2
    go_ret
    exact ⟨rfl, bel_step (bx2_bel 79 w x0 y0 x1 y1) g1⟩

theorem winds_of {w w' w0 : World} (h : Winds w) (h1 : Bel w w0) (h2 : Bel w0 w') : Winds w' := h.bel (bel_step h1 h2)

end Go.Proofs.YtponmbjflablcaaDoor
