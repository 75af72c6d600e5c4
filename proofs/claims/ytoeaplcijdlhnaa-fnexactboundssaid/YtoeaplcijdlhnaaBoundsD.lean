/-
  Contracts of Bounds' model, and of Bounds where there is nothing: for every row of at most 2 to the 20th points.
-/
import Derived.Test.YtoeaplcijdlhnaaBoundsC
namespace Go.Proofs.Ytoeaplcijdlhnaa
open Go.RowKit

set_option maxRecDepth 100000 in
set_option maxHeartbeats 4000000 in
theorem l1Bounds_any (a : Option Addr) (n c : Nat) (X Y : Nat → Int) (w : World) (hP : Pts w a n X Y) (hn : n ≤ 2000) (hn0 : 0 < n) :
    Calls Try.prog 56 #[.slice a n c] w fun e w' => e = .returned (bx (mn X (n - 1)) (mn Y (n - 1)) (mx X (n - 1)) (mx Y (n - 1))) ∧ Bel w w' := by
  rcases hP with h | ⟨b, off, rfl, h2, h3⟩
  · omega
  have HP : Hid (Pts w (some ⟨b, off, none⟩) n X Y) := .inr ⟨b, off, rfl, h2, h3⟩
  obtain ⟨d0, d1⟩ := h3 0 hn0
  simp only [Nat.zero_mul, Nat.add_zero] at d0 d1
  have hR : ∀ w', Bel w w' → w'.cell? ⟨b, off, none⟩ = some (.int .i64 (X 0)) ∧ w'.cell? ⟨b, off + 1, none⟩ = some (.int .i64 (Y 0)) := fun w' h => ⟨bel_cell h h2 d0, bel_cell h h2 d1⟩
  have g0 : Bel w w := Bel.refl _
  have hn0' : (0 : Int) < (n : Int) := by omega
  have hbw : b < w.heap.size := h2
  clear h3 d0 d1 h2
  go_enter Try.func56, Try.ntmps56
  go_wp2
  go_cut [3] (fun t wc => t = .pointer (some ⟨w.heap.size + 1, 0, none⟩) ∧ Four wc (w.heap.size + 1) (X 0) (Y 0) (X 0) (Y 0) ∧ Four wc w.heap.size 0 0 0 0 ∧ Bel w wc)
  case first =>
    go_region_held3 (fun w' => Bel w w') (repeat (first | exact g0 | refine Bel.drew ?_ | refine bel_alloc ?_ _ | assumption)) (fail)
    all_goals
      clear hR g0 HP
      first | go_meet | (go_wp2_with fail; go_meet)
      case rel =>
        refine ⟨rfl, ⟨?_, ?_, ?_, ?_, ?_, ?_⟩, ⟨?_, ?_, ?_, ?_, ?_, ?_⟩, by assumption⟩
        all_goals first | omega | (simp [go_sem]; done) | (simp [go_sem]; omega)
  case rest =>
    obtain ⟨rfl, hF, hR0, hB0⟩ := hcut
    clear hR g0
    go_wp2
    go_loopw [4] (fun i wr => ∃ k : Nat, k + 1 ≤ n ∧ i = .int .i64 ((k : Int) + 1) ∧ Four wr (w.heap.size + 1) (mn X k) (mn Y k) (mx X k) (mx Y k) ∧ Four wr w.heap.size 0 0 0 0 ∧ Bel w wr) (fun i _ => n - (intOf i).toNat)
    case atStart => exact ⟨0, by omega, rfl, hF, hR0, hB0⟩
    case round =>
      clear hF hR0 hB0
      obtain ⟨k, hk, rfl, hF, hR0, hB0⟩ := hrel
      by_cases hlt : k + 1 < n
      · have hk1 : (k : Int) + 1 < (n : Int) := by omega
        have htn : ((k : Int) + 1).toNat = k + 1 := by omega
        have hj1 : (0 : Int) ≤ (k : Int) + 1 := by omega
        have hwj1 : IntKind.i64.wrap ((k : Int) + 1) = k + 1 := by rw [IntKind.wrap_i64]; omega
        rcases HP.out.bel hB0 with h | ⟨b', off', e, h2, h3⟩
        · omega
        cases e
        obtain ⟨cx, cy⟩ := h3 (k + 1) hlt
        clear h3
        go_wp2
        have hRj : ∀ w', Bel wr w' → w'.cell? ⟨b, off + (k + 1) * 2, none⟩ = some (.int .i64 (X (k + 1))) ∧ w'.cell? ⟨b, off + (k + 1) * 2 + 1, none⟩ = some (.int .i64 (Y (k + 1))) ∧ w'.cell? ⟨w.heap.size + 1, 0, none⟩ = some (.int .i64 (mn X k)) := fun w' h => ⟨bel_cell h h2 cx, bel_cell h h2 cy, bel_cell h hF.lt hF.c0⟩
        have g0 : Bel wr wr := Bel.refl _
        have HF : Hid (Four wr (w.heap.size + 1) (mn X k) (mn Y k) (mx X k) (mx Y k)) := hF
        have HR : Hid (Four wr w.heap.size 0 0 0 0) := hR0
        have HC : Hid (wr.cell? ⟨b, off + (k + 1) * 2, none⟩ = some (.int .i64 (X (k + 1))) ∧ wr.cell? ⟨b, off + (k + 1) * 2 + 1, none⟩ = some (.int .i64 (Y (k + 1)))) := ⟨cx, cy⟩
        have HB : Hid (Bel w wr) := hB0
        clear hF hR0 cx cy hB0
        go_region_held3 (fun w' => Bel wr w') (repeat (first | exact g0 | refine Bel.drew ?_ | assumption)) (fail)
        go_upto_if 26 with fail
        go_cut [] (fun wx => Four wx (w.heap.size + 1) (min (mn X k) (X (k + 1))) (mn Y k) (mx X k) (mx Y k) ∧ Four wx w.heap.size 0 0 0 0 ∧ b < wx.heap.size ∧ (wx.cell? ⟨b, off + (k + 1) * 2, none⟩ = some (.int .i64 (X (k + 1))) ∧ wx.cell? ⟨b, off + (k + 1) * 2 + 1, none⟩ = some (.int .i64 (Y (k + 1)))) ∧ Bel w wx)
        case first =>
          clear hRj g0
          by_cases ht : X (k + 1) < mn X k
          · obtain ⟨cx, cy⟩ := HC.out
            have fj := HF.out.c0
            have fr := HF.out.fr 0
            have fl := HF.out.lt
            go_wp2
            go_meet
            case rel =>
              refine ⟨?_, (HR.out.far (by omega)).bel (Bel.drew (Bel.refl _)), by simpa [World.setCell] using h2, ⟨?_, ?_⟩, Bel.drew (bel_set HB.out (by simp) _)⟩
              · rw [show min (mn X k) (X (k + 1)) = X (k + 1) by omega]
                exact (HF.out.set0 _).bel (Bel.drew (Bel.refl _))
              · exact (setc_far (show w.heap.size + 1 ≠ b by omega)).trans cx
              · exact (setc_far (show w.heap.size + 1 ≠ b by omega)).trans cy
          · go_wp2
            go_meet
            case rel =>
              refine ⟨?_, HR.out.bel (Bel.drew (Bel.refl _)), h2, HC.out, Bel.drew HB.out⟩
              rw [show min (mn X k) (X (k + 1)) = mn X k by omega]
              exact HF.out.bel (Bel.drew (Bel.refl _))
        case rest =>
          clear hRj g0 HF HR HC HB h2
          obtain ⟨hF, hR0, h2, ⟨cx, cy⟩, hB0⟩ := hcut
          go_wp2
          obtain ⟨wq0, hq⟩ : ∃ wq : World, wq = wc := ⟨wc, rfl⟩
          subst hq
          have hRj : ∀ w', Bel wq0 w' → w'.cell? ⟨b, off + (k + 1) * 2, none⟩ = some (.int .i64 (X (k + 1))) ∧ w'.cell? ⟨b, off + (k + 1) * 2 + 1, none⟩ = some (.int .i64 (Y (k + 1))) ∧ w'.cell? ⟨w.heap.size + 1, 1, none⟩ = some (.int .i64 (mn Y k)) := fun w' h => ⟨bel_cell h h2 cx, bel_cell h h2 cy, bel_cell h hF.lt hF.c1⟩
          have g0 : Bel wq0 wq0 := Bel.refl _
          have HF : Hid (Four wq0 (w.heap.size + 1) (min (mn X k) (X (k + 1))) (mn Y k) (mx X k) (mx Y k)) := hF
          have HR : Hid (Four wq0 w.heap.size 0 0 0 0) := hR0
          have HC : Hid (wq0.cell? ⟨b, off + (k + 1) * 2, none⟩ = some (.int .i64 (X (k + 1))) ∧ wq0.cell? ⟨b, off + (k + 1) * 2 + 1, none⟩ = some (.int .i64 (Y (k + 1)))) := ⟨cx, cy⟩
          have HB : Hid (Bel w wq0) := hB0
          clear hF hR0 cx cy hB0
          go_region_held3 (fun w' => Bel wq0 w') (repeat (first | exact g0 | refine Bel.drew ?_ | assumption)) (fail)
          go_upto_if 42 with fail
          go_cut [] (fun wx => Four wx (w.heap.size + 1) (min (mn X k) (X (k + 1))) (min (mn Y k) (Y (k + 1))) (mx X k) (mx Y k) ∧ Four wx w.heap.size 0 0 0 0 ∧ b < wx.heap.size ∧ (wx.cell? ⟨b, off + (k + 1) * 2, none⟩ = some (.int .i64 (X (k + 1))) ∧ wx.cell? ⟨b, off + (k + 1) * 2 + 1, none⟩ = some (.int .i64 (Y (k + 1)))) ∧ Bel w wx)
          case first =>
            clear hRj g0
            by_cases ht : Y (k + 1) < mn Y k
            · obtain ⟨cx, cy⟩ := HC.out
              have fj := HF.out.c1
              have fr := HF.out.fr 1
              have fl := HF.out.lt
              go_wp2
              go_meet
              case rel =>
                refine ⟨?_, (HR.out.far (by omega)).bel (Bel.drew (Bel.refl _)), by simpa [World.setCell] using h2, ⟨?_, ?_⟩, Bel.drew (bel_set HB.out (by simp) _)⟩
                · rw [show min (mn Y k) (Y (k + 1)) = Y (k + 1) by omega]
                  exact (HF.out.set1 _).bel (Bel.drew (Bel.refl _))
                · exact (setc_far (show w.heap.size + 1 ≠ b by omega)).trans cx
                · exact (setc_far (show w.heap.size + 1 ≠ b by omega)).trans cy
            · go_wp2
              go_meet
              case rel =>
                refine ⟨?_, HR.out.bel (Bel.drew (Bel.refl _)), h2, HC.out, Bel.drew HB.out⟩
                rw [show min (mn Y k) (Y (k + 1)) = mn Y k by omega]
                exact HF.out.bel (Bel.drew (Bel.refl _))
          case rest =>
            clear hRj g0 HF HR HC HB h2
            obtain ⟨hF, hR0, h2, ⟨cx, cy⟩, hB0⟩ := hcut
            go_wp2
            obtain ⟨wq1, hq⟩ : ∃ wq : World, wq = wc := ⟨wc, rfl⟩
            subst hq
            have hRj : ∀ w', Bel wq1 w' → w'.cell? ⟨b, off + (k + 1) * 2, none⟩ = some (.int .i64 (X (k + 1))) ∧ w'.cell? ⟨b, off + (k + 1) * 2 + 1, none⟩ = some (.int .i64 (Y (k + 1))) ∧ w'.cell? ⟨w.heap.size + 1, 2, none⟩ = some (.int .i64 (mx X k)) := fun w' h => ⟨bel_cell h h2 cx, bel_cell h h2 cy, bel_cell h hF.lt hF.c2⟩
            have g0 : Bel wq1 wq1 := Bel.refl _
            have HF : Hid (Four wq1 (w.heap.size + 1) (min (mn X k) (X (k + 1))) (min (mn Y k) (Y (k + 1))) (mx X k) (mx Y k)) := hF
            have HR : Hid (Four wq1 w.heap.size 0 0 0 0) := hR0
            have HC : Hid (wq1.cell? ⟨b, off + (k + 1) * 2, none⟩ = some (.int .i64 (X (k + 1))) ∧ wq1.cell? ⟨b, off + (k + 1) * 2 + 1, none⟩ = some (.int .i64 (Y (k + 1)))) := ⟨cx, cy⟩
            have HB : Hid (Bel w wq1) := hB0
            clear hF hR0 cx cy hB0
            go_region_held3 (fun w' => Bel wq1 w') (repeat (first | exact g0 | refine Bel.drew ?_ | assumption)) (fail)
            go_upto_if 58 with fail
            go_cut [] (fun wx => Four wx (w.heap.size + 1) (min (mn X k) (X (k + 1))) (min (mn Y k) (Y (k + 1))) (max (mx X k) (X (k + 1))) (mx Y k) ∧ Four wx w.heap.size 0 0 0 0 ∧ b < wx.heap.size ∧ (wx.cell? ⟨b, off + (k + 1) * 2, none⟩ = some (.int .i64 (X (k + 1))) ∧ wx.cell? ⟨b, off + (k + 1) * 2 + 1, none⟩ = some (.int .i64 (Y (k + 1)))) ∧ Bel w wx)
            case first =>
              clear hRj g0
              by_cases ht : mx X k < X (k + 1)
              · obtain ⟨cx, cy⟩ := HC.out
                have fj := HF.out.c2
                have fr := HF.out.fr 2
                have fl := HF.out.lt
                go_wp2
                go_meet
                case rel =>
                  refine ⟨?_, (HR.out.far (by omega)).bel (Bel.drew (Bel.refl _)), by simpa [World.setCell] using h2, ⟨?_, ?_⟩, Bel.drew (bel_set HB.out (by simp) _)⟩
                  · rw [show max (mx X k) (X (k + 1)) = X (k + 1) by omega]
                    exact (HF.out.set2 _).bel (Bel.drew (Bel.refl _))
                  · exact (setc_far (show w.heap.size + 1 ≠ b by omega)).trans cx
                  · exact (setc_far (show w.heap.size + 1 ≠ b by omega)).trans cy
              · go_wp2
                go_meet
                case rel =>
                  refine ⟨?_, HR.out.bel (Bel.drew (Bel.refl _)), h2, HC.out, Bel.drew HB.out⟩
                  rw [show max (mx X k) (X (k + 1)) = mx X k by omega]
                  exact HF.out.bel (Bel.drew (Bel.refl _))
            case rest =>
              clear hRj g0 HF HR HC HB h2
              obtain ⟨hF, hR0, h2, ⟨cx, cy⟩, hB0⟩ := hcut
              go_wp2
              obtain ⟨wq2, hq⟩ : ∃ wq : World, wq = wc := ⟨wc, rfl⟩
              subst hq
              have hRj : ∀ w', Bel wq2 w' → w'.cell? ⟨b, off + (k + 1) * 2, none⟩ = some (.int .i64 (X (k + 1))) ∧ w'.cell? ⟨b, off + (k + 1) * 2 + 1, none⟩ = some (.int .i64 (Y (k + 1))) ∧ w'.cell? ⟨w.heap.size + 1, 3, none⟩ = some (.int .i64 (mx Y k)) := fun w' h => ⟨bel_cell h h2 cx, bel_cell h h2 cy, bel_cell h hF.lt hF.c3⟩
              have g0 : Bel wq2 wq2 := Bel.refl _
              have HF : Hid (Four wq2 (w.heap.size + 1) (min (mn X k) (X (k + 1))) (min (mn Y k) (Y (k + 1))) (max (mx X k) (X (k + 1))) (mx Y k)) := hF
              have HR : Hid (Four wq2 w.heap.size 0 0 0 0) := hR0
              have HC : Hid (wq2.cell? ⟨b, off + (k + 1) * 2, none⟩ = some (.int .i64 (X (k + 1))) ∧ wq2.cell? ⟨b, off + (k + 1) * 2 + 1, none⟩ = some (.int .i64 (Y (k + 1)))) := ⟨cx, cy⟩
              have HB : Hid (Bel w wq2) := hB0
              clear hF hR0 cx cy hB0
              go_region_held3 (fun w' => Bel wq2 w') (repeat (first | exact g0 | refine Bel.drew ?_ | assumption)) (fail)
              clear hRj g0
              by_cases ht : mx Y k < Y (k + 1)
              · obtain ⟨cx, cy⟩ := HC.out
                have fj := HF.out.c3
                have fr := HF.out.fr 3
                have fl := HF.out.lt
                go_wp2
                have hh : Four _ (w.heap.size + 1) (min (mn X k) (X (k + 1))) (min (mn Y k) (Y (k + 1))) (max (mx X k) (X (k + 1))) (Y (k + 1)) := (HF.out.set3 (Y (k + 1))).bel (Bel.drew (Bel.refl _))
                have HY : Y (k + 1) = max (mx Y k) (Y (k + 1)) := by omega
                go_roundw
                case rel => exact ⟨k + 1, by omega, by go_num, by simp only [mn, mx]; rw [← HY]; exact hh, (HR.out.far (by omega)).bel (Bel.drew (Bel.refl _)), Bel.drew (bel_set HB.out (by simp) _)⟩
                case measure => simp [intOf]; omega
              · go_wp2
                have hh : Four _ (w.heap.size + 1) (min (mn X k) (X (k + 1))) (min (mn Y k) (Y (k + 1))) (max (mx X k) (X (k + 1))) (mx Y k) := HF.out.bel (Bel.drew (Bel.refl _))
                have HY : mx Y k = max (mx Y k) (Y (k + 1)) := by omega
                go_roundw
                case rel => exact ⟨k + 1, by omega, by go_num, by simp only [mn, mx]; rw [← HY]; exact hh, HR.out.bel (Bel.drew (Bel.refl _)), Bel.drew HB.out⟩
                case measure => simp [intOf]; omega
      · obtain rfl : k = n - 1 := by omega
        have HX : Hid (Four _ w.heap.size (mn X (n - 1)) (mn Y (n - 1)) (mx X (n - 1)) (mx Y (n - 1))) := (((hR0.set0 (mn X (n - 1))).set1 (mn Y (n - 1))).set2 (mx X (n - 1))).set3 (mx Y (n - 1))
        obtain ⟨fl, f0, f1, f2, f3, ff⟩ := hF
        obtain ⟨rl, z0, z1, z2, z3, rf⟩ := hR0
        have q0 := rf 0
        have q1 := rf 1
        have q2 := rf 2
        have q3 := rf 3
        clear ff rf
        go_wp2
        obtain ⟨_, y0, y1, y2, y3, _⟩ := HX.out
        exact bodyPost_ret (v := bx (mn X (n - 1)) (mn Y (n - 1)) (mx X (n - 1)) (mx Y (n - 1))) (by simp [results, Try.results56, go_sem, y0, y1, y2, y3]) rfl
          ⟨rfl, bel_set (bel_set (bel_set (bel_set hB0 (Nat.le_refl _) _) (Nat.le_refl _) _) (Nat.le_refl _) _) (Nat.le_refl _) _⟩

/-- Bounds as both tell them. -/
def bq (n : Nat) (X Y : Nat → Int) : Nat → Int := if rowB n X Y && decide (0 < n) then (fun j => match j with | 0 => mn X (n - 1) | 1 => mn Y (n - 1) | 2 => mx X (n - 1) | _ => mx Y (n - 1)) else fun _ => 0
abbrev bqv (n : Nat) (X Y : Nat → Int) : Value := bx (bq n X Y 0) (bq n X Y 1) (bq n X Y 2) (bq n X Y 3)
theorem bq_yes {n : Nat} {X Y : Nat → Int} (h : rowB n X Y = true) (h0 : 0 < n) : bqv n X Y = bx (mn X (n - 1)) (mn Y (n - 1)) (mx X (n - 1)) (mx Y (n - 1)) := by simp [bqv, bq, h, h0]
theorem bq_no {n : Nat} {X Y : Nat → Int} (h : rowB n X Y = false ∨ n = 0) : bqv n X Y = bx 0 0 0 0 := by rcases h with h | h <;> simp [bqv, bq, h]

theorem specBounds_any (a : Option Addr) (n c : Nat) (X Y : Nat → Int) (w : World) (hP : Pts w a n X Y) (hn : n ≤ 1048576) :
    Calls Try.prog 35 #[.slice a n c] w fun e w' => e = .returned (bqv n X Y) ∧ Bel w w' := by
  by_cases hr : rowB n X Y = true
  · by_cases hn0 : 0 < n
    · rw [bq_yes hr hn0]
      obtain ⟨hn', _⟩ := rowB_out hr
      have hne : ((n : Int) == 0) = false := by simp; omega
      go_enter Try.func35, Try.ntmps35
      go_wp2_with fail
      refine (specRowOk_any _ _ _ X Y _ (hP.bel (bel_alloc (Bel.refl _) _)) hn).mono ?_
      rintro e w1 ⟨rfl, hb1⟩
      have B1 : Bel w w1 := bel_step (bel_alloc (Bel.refl _) _) hb1
      have R1 := (Four.new w 0 0 0 0 52).bel hb1
      go_wp2_with fail
      refine (l1Bounds_any _ _ _ X Y _ (hP.bel B1) hn' hn0).mono ?_
      rintro e w2 ⟨rfl, hb2⟩
      have R2 := R1.bel hb2
      have HX : Hid (Four _ w.heap.size (mn X (n - 1)) (mn Y (n - 1)) (mx X (n - 1)) (mx Y (n - 1))) := (((R2.set0 (mn X (n - 1))).set1 (mn Y (n - 1))).set2 (mx X (n - 1))).set3 (mx Y (n - 1))
      obtain ⟨rl, z0, z1, z2, z3, rf⟩ := R2
      have q0 := rf 0
      have q1 := rf 1
      have q2 := rf 2
      have q3 := rf 3
      clear rf R1
      go_wp2
      obtain ⟨_, y0, y1, y2, y3, _⟩ := HX.out
      exact bodyPost_ret (v := bx (mn X (n - 1)) (mn Y (n - 1)) (mx X (n - 1)) (mx Y (n - 1))) (by simp [results, Try.results35, go_sem, y0, y1, y2, y3]) rfl
        ⟨rfl, bel_set (bel_set (bel_set (bel_set (bel_step B1 hb2) (Nat.le_refl _) _) (Nat.le_refl _) _) (Nat.le_refl _) _) (Nat.le_refl _) _⟩
    · have e0 : n = 0 := by omega
      subst e0
      rw [bq_no (.inr rfl)]
      go_enter Try.func35, Try.ntmps35
      go_wp2_with fail
      refine (specRowOk_any _ _ _ X Y _ (hP.bel (bel_alloc (Bel.refl _) _)) hn).mono ?_
      rintro e w1 ⟨rfl, hb1⟩
      obtain ⟨rl, z0, z1, z2, z3, rf⟩ := (Four.new w 0 0 0 0 52).bel hb1
      have HX : Hid (Four _ w.heap.size 0 0 0 0) := (((((Four.new w 0 0 0 0 52).bel hb1).set0 0).set1 0).set2 0).set3 0
      have q0 := rf 0
      have q1 := rf 1
      have q2 := rf 2
      have q3 := rf 3
      clear rf
      go_wp2
      obtain ⟨_, y0, y1, y2, y3, _⟩ := HX.out
      exact bodyPost_ret (v := bx 0 0 0 0) (by simp [results, Try.results35, go_sem, y0, y1, y2, y3]) rfl
        ⟨rfl, bel_set (bel_set (bel_set (bel_set (bel_step (bel_alloc (Bel.refl _) _) hb1) (Nat.le_refl _) _) (Nat.le_refl _) _) (Nat.le_refl _) _) (Nat.le_refl _) _⟩
  · have hr : rowB n X Y = false := by simpa using hr
    rw [bq_no (.inl hr)]
    go_enter Try.func35, Try.ntmps35
    go_wp2_with fail
    refine (specRowOk_any _ _ _ X Y _ (hP.bel (bel_alloc (Bel.refl _) _)) hn).mono ?_
    rintro e w1 ⟨rfl, hb1⟩
    obtain ⟨rl, z0, z1, z2, z3, rf⟩ := (Four.new w 0 0 0 0 52).bel hb1
    have HX : Hid (Four _ w.heap.size 0 0 0 0) := (((((Four.new w 0 0 0 0 52).bel hb1).set0 0).set1 0).set2 0).set3 0
    have q0 := rf 0
    have q1 := rf 1
    have q2 := rf 2
    have q3 := rf 3
    clear rf
    go_wp2
    obtain ⟨_, y0, y1, y2, y3, _⟩ := HX.out
    exact bodyPost_ret (v := bx 0 0 0 0) (by simp [results, Try.results35, go_sem, y0, y1, y2, y3]) rfl
      ⟨rfl, bel_set (bel_set (bel_set (bel_set (bel_step (bel_alloc (Bel.refl _) _) hb1) (Nat.le_refl _) _) (Nat.le_refl _) _) (Nat.le_refl _) _) (Nat.le_refl _) _⟩

theorem bounds_any (a : Option Addr) (n c : Nat) (X Y : Nat → Int) (w : World) (hP : Pts w a n X Y) (hn : n ≤ 1048576) :
    Calls Try.prog 36 #[.slice a n c] w fun e w' => e = .returned (bqv n X Y) ∧ Bel w w' := by
  by_cases hr : rowB n X Y = true
  · by_cases hn0 : 0 < n
    · rw [bq_yes hr hn0]
      exact bounds_ok _ _ _ X Y _ hP hn hr hn0
    · have e0 : n = 0 := by omega
      subst e0
      rw [bq_no (.inr rfl)]
      go_enter Try.func36, Try.ntmps36
      go_wp2_with fail
      refine (rowOk_any _ _ _ X Y _ (hP.bel (bel_alloc (Bel.refl _) _)) hn).mono ?_
      rintro e w1 ⟨rfl, hb1⟩
      obtain ⟨rl, z0, z1, z2, z3, rf⟩ := (Four.new w 0 0 0 0 52).bel hb1
      have HX : Hid (Four _ w.heap.size 0 0 0 0) := (((((Four.new w 0 0 0 0 52).bel hb1).set0 0).set1 0).set2 0).set3 0
      have q0 := rf 0
      have q1 := rf 1
      have q2 := rf 2
      have q3 := rf 3
      clear rf
      go_wp2
      obtain ⟨_, y0, y1, y2, y3, _⟩ := HX.out
      exact bodyPost_ret (v := bx 0 0 0 0) (by simp [results, Try.results36, go_sem, y0, y1, y2, y3]) rfl
        ⟨rfl, bel_set (bel_set (bel_set (bel_set (bel_step (bel_alloc (Bel.refl _) _) hb1) (Nat.le_refl _) _) (Nat.le_refl _) _) (Nat.le_refl _) _) (Nat.le_refl _) _⟩
  · have hr : rowB n X Y = false := by simpa using hr
    rw [bq_no (.inl hr)]
    go_enter Try.func36, Try.ntmps36
    go_wp2_with fail
    refine (rowOk_any _ _ _ X Y _ (hP.bel (bel_alloc (Bel.refl _) _)) hn).mono ?_
    rintro e w1 ⟨rfl, hb1⟩
    obtain ⟨rl, z0, z1, z2, z3, rf⟩ := (Four.new w 0 0 0 0 52).bel hb1
    have HX : Hid (Four _ w.heap.size 0 0 0 0) := (((((Four.new w 0 0 0 0 52).bel hb1).set0 0).set1 0).set2 0).set3 0
    have q0 := rf 0
    have q1 := rf 1
    have q2 := rf 2
    have q3 := rf 3
    clear rf
    go_wp2
    obtain ⟨_, y0, y1, y2, y3, _⟩ := HX.out
    exact bodyPost_ret (v := bx 0 0 0 0) (by simp [results, Try.results36, go_sem, y0, y1, y2, y3]) rfl
      ⟨rfl, bel_set (bel_set (bel_set (bel_set (bel_step (bel_alloc (Bel.refl _) _) hb1) (Nat.le_refl _) _) (Nat.le_refl _) _) (Nat.le_refl _) _) (Nat.le_refl _) _⟩

theorem eqBox_same (a b c d : Int) (w : World) :
    Calls Try.prog 37 #[bx a b c d, bx a b c d] w fun e w' => e = .returned (.bool true) ∧ Bel w w' := by
  go_enter Try.func37, Try.ntmps37
  go_wp2_with fail
  refine (eqPoint_same _ _ _).mono ?_
  rintro e w1 ⟨rfl, hb1⟩
  obtain ⟨hc1, hf1, hz1⟩ := bcell hb1
  have hy1 : w.heap.size < w1.heap.size := bel_lt hb1 (by simp; omega)
  have hy2 : w.heap.size + 1 < w1.heap.size := bel_lt hb1 (by simp)
  go_wp2_with fail
  refine (eqPoint_same _ _ _).mono ?_
  rintro e w2 ⟨rfl, hb2⟩
  go_wp2
  go_ret
  exact ⟨rfl, bel_step (bel_step (bel_alloc (bel_alloc (Bel.refl _) _) _) hb1) hb2⟩
end Go.Proofs.Ytoeaplcijdlhnaa
