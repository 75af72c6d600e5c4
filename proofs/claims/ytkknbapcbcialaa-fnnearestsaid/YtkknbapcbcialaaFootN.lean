/-
  The program's nearest place of a stretch: its contract.
-/
import Derived.Test.YtkknbapcbcialaaFootC
import Derived.Test.YtkknbapcbcialaaBoundsC
namespace Go.Proofs.Ytkknbapcbcialaa
open Go.RowKit

/-- A point in its block. -/
structure PtAt (w : World) (B : Nat) (x y : Int) : Prop where
  lt : B < w.heap.size
  c0 : w.cell? ⟨B, 0, none⟩ = some (.int .i64 x)
  c1 : w.cell? ⟨B, 1, none⟩ = some (.int .i64 y)
  fr : ∀ j, w.frozen? ⟨B, j, none⟩ = false
theorem PtAt.bel {w w' : World} {B : Nat} {x y : Int} (h : PtAt w B x y) (hb : Bel w w') : PtAt w' B x y :=
  ⟨bel_lt hb h.lt, bel_cel hb h.lt h.c0, bel_cel hb h.lt h.c1, fun j => by rw [hb.out.frozen (p := ⟨B, _, none⟩) h.lt]; exact h.fr j⟩
theorem bx3_at (t : TypeId) (w : World) (x0 y0 x1 y1 x2 y2 : Int) : PtAt (bx3 t w x0 y0 x1 y1 x2 y2) w.heap.size x0 y0 ∧ PtAt (bx3 t w x0 y0 x1 y1 x2 y2) (w.heap.size + 1) x1 y1 ∧ PtAt (bx3 t w x0 y0 x1 y1 x2 y2) (w.heap.size + 1 + 1) x2 y2 := by
  refine ⟨⟨?_, ?_, ?_, ?_⟩, ⟨?_, ?_, ?_, ?_⟩, ⟨?_, ?_, ?_, ?_⟩⟩
  all_goals first | (intro j; simp [bx3, go_sem]; done) | (simp [bx3, go_sem]; done) | (simp [bx3, go_sem]; omega)

/-- What the last region of the nearest place reads and writes. -/
structure NF (w : World) (B : Nat) (x0 y0 x1 y1 ux uy : Int) (w' : World) : Prop where
  b : Bel w w'
  e : PtAt w' (w.heap.size + 1) x1 y1
  a : PtAt w' w.heap.size x0 y0
  u : PtAt w' B ux uy
  r : ∃ r0 r1, PtAt w' (w.heap.size + 1 + 1 + 1) r0 r1
  n : w.heap.size + 1 + 1 + 1 < B
theorem NF.bel {w : World} {B : Nat} {x0 y0 x1 y1 ux uy : Int} {w' w'' : World} (h : NF w B x0 y0 x1 y1 ux uy w') (k : Bel w' w'') : NF w B x0 y0 x1 y1 ux uy w'' :=
  ⟨bel_step h.b k, h.e.bel k, h.a.bel k, h.u.bel k, h.r.elim fun r0 h => h.elim fun r1 h => ⟨r0, r1, h.bel k⟩, h.n⟩
theorem NF.drew {w : World} {B : Nat} {x0 y0 x1 y1 ux uy : Int} {w' : World} (h : NF w B x0 y0 x1 y1 ux uy w') : NF w B x0 y0 x1 y1 ux uy w'.drew := h.bel (Bel.drew (Bel.refl _))
theorem PtAt.other {w : World} {B C : Nat} {x y : Int} (h : PtAt w B x y) (n : C ≠ B) (o : Nat) (v : Value) : PtAt (w.setCell ⟨C, o, none⟩ v) B x y := by
  obtain ⟨l, c0, c1, f⟩ := h
  refine ⟨?_, ?_, ?_, fun j => ?_⟩ <;> simp [go_sem, *]
theorem PtAt.set0 {w : World} {B : Nat} {x y : Int} (h : PtAt w B x y) (z : Int) : PtAt (w.setCell ⟨B, 0, none⟩ (.int .i64 z)) B z y := by
  obtain ⟨l, c0, c1, f⟩ := h
  refine ⟨?_, ?_, ?_, fun j => ?_⟩ <;> simp [go_sem, *]
theorem PtAt.set1 {w : World} {B : Nat} {x y : Int} (h : PtAt w B x y) (z : Int) : PtAt (w.setCell ⟨B, 1, none⟩ (.int .i64 z)) B x z := by
  obtain ⟨l, c0, c1, f⟩ := h
  refine ⟨?_, ?_, ?_, fun j => ?_⟩ <;> simp [go_sem, *]
theorem NF.set0 {w : World} {B : Nat} {x0 y0 x1 y1 ux uy : Int} {w' : World} (h : NF w B x0 y0 x1 y1 ux uy w') (z : Int) : NF w B x0 y0 x1 y1 ux uy (w'.setCell ⟨w.heap.size + 1 + 1 + 1, 0, none⟩ (.int .i64 z)) :=
  ⟨bel_s3 h.b _ _, h.e.other (by omega) _ _, h.a.other (by omega) _ _, h.u.other (by have := h.n; omega) _ _, h.r.elim fun r0 h => h.elim fun r1 h => ⟨_, _, h.set0 z⟩, h.n⟩
theorem NF.set1 {w : World} {B : Nat} {x0 y0 x1 y1 ux uy : Int} {w' : World} (h : NF w B x0 y0 x1 y1 ux uy w') (z : Int) : NF w B x0 y0 x1 y1 ux uy (w'.setCell ⟨w.heap.size + 1 + 1 + 1, 1, none⟩ (.int .i64 z)) :=
  ⟨bel_s3 h.b _ _, h.e.other (by omega) _ _, h.a.other (by omega) _ _, h.u.other (by have := h.n; omega) _ _, h.r.elim fun r0 h => h.elim fun r1 h => ⟨_, _, h.set1 z⟩, h.n⟩

/-- The three places that a foot can have, laid out. -/
theorem foot_a {x0 y0 x1 y1 x2 y2 : Int} (h : (x1 - x0) * (x2 - x0) + (y1 - y0) * (y2 - y0) ≤ 0) : footX x0 y0 x1 y1 x2 y2 = x0 ∧ footY x0 y0 x1 y1 x2 y2 = y0 := ⟨if_pos h, if_pos h⟩
theorem foot_b {x0 y0 x1 y1 x2 y2 : Int} (h : ¬ (x1 - x0) * (x2 - x0) + (y1 - y0) * (y2 - y0) ≤ 0) (k : (x1 - x0) * (x1 - x0) + (y1 - y0) * (y1 - y0) ≤ (x1 - x0) * (x2 - x0) + (y1 - y0) * (y2 - y0)) : footX x0 y0 x1 y1 x2 y2 = x1 ∧ footY x0 y0 x1 y1 x2 y2 = y1 :=
  ⟨(if_neg h).trans (if_pos k), (if_neg h).trans (if_pos k)⟩
theorem foot_m {x0 y0 x1 y1 x2 y2 : Int} (h : ¬ (x1 - x0) * (x2 - x0) + (y1 - y0) * (y2 - y0) ≤ 0) (k : ¬ (x1 - x0) * (x1 - x0) + (y1 - y0) * (y1 - y0) ≤ (x1 - x0) * (x2 - x0) + (y1 - y0) * (y2 - y0)) : footX x0 y0 x1 y1 x2 y2 = x0 + shareOf (x1 - x0) ((x1 - x0) * (x2 - x0) + (y1 - y0) * (y2 - y0)) ((x1 - x0) * (x1 - x0) + (y1 - y0) * (y1 - y0)) ∧ footY x0 y0 x1 y1 x2 y2 = y0 + shareOf (y1 - y0) ((x1 - x0) * (x2 - x0) + (y1 - y0) * (y2 - y0)) ((x1 - x0) * (x1 - x0) + (y1 - y0) * (y1 - y0)) :=
  ⟨(if_neg h).trans (if_neg k), (if_neg h).trans (if_neg k)⟩

set_option maxHeartbeats 4000000 in
theorem nearestOn_any (x0 y0 x1 y1 x2 y2 : Int) (w : World) (a : POk x0 y0) (b : POk x1 y1) (c : POk x2 y2) :
    Calls Try.prog 69 #[pt x0 y0, pt x1 y1, pt x2 y2] w fun e w' => e = .returned (pt (footX x0 y0 x1 y1 x2 y2) (footY x0 y0 x1 y1 x2 y2)) ∧ Bel w w' := by
  obtain ⟨p0, p1, p2, p3⟩ := uv_bd a b c
  obtain ⟨q0, q1, q2, q3⟩ := uv_bd a b b
  obtain ⟨d0, d1⟩ := dsq_bd a b
  have hR := bx3_cells 29 w x0 y0 x1 y1 x2 y2
  have g1 : Bel (bx3 29 w x0 y0 x1 y1 x2 y2) (((w.alloc (.cells #[.int .i64 x0, .int .i64 y0] 29)).alloc (.cells #[.int .i64 x1, .int .i64 y1] 29)).alloc (.cells #[.int .i64 x2, .int .i64 y2] 29)) := Bel.refl _
  go_enter Try.func69, Try.ntmps69
  go_wp2
  go_cut [7, 8] (fun t u wc => ∃ B C, t = .pointer (some ⟨B, 0, none⟩) ∧ u = .pointer (some ⟨C, 0, none⟩) ∧ w.heap.size + 1 + 1 + 1 < B ∧ PtAt wc B (x1 - x0) (y1 - y0) ∧ PtAt wc C (x2 - x0) (y2 - y0) ∧ PtAt wc (w.heap.size + 1 + 1 + 1) 0 0 ∧ Bel (bx3 29 w x0 y0 x1 y1 x2 y2) wc)
  case first =>
    go_region_held3 (fun w' => Bel (bx3 29 w x0 y0 x1 y1 x2 y2) w') (with_reducible (repeat (first | exact g1 | refine Bel.drew ?_ | refine bel_alloc ?_ _ | refine bel_set2 ?_ ?_ _ | refine bel_set3 ?_ ?_ _ | assumption | refine bel_then (by assumption) ?_)))
      (first
        | (go_at_call 49; refine (minus_exact _ _ _ _ _ (by assumption) (by assumption)).mono ?_; rintro e w' ⟨rfl, rfl⟩))
    all_goals
      go_wp2_with fail
      go_meet
      case rel =>
        refine ⟨_, _, rfl, rfl, ?_, ⟨?_, ?_, ?_, ?_⟩, ⟨?_, ?_, ?_, ?_⟩, ⟨?_, ?_, ?_, ?_⟩, by with_reducible assumption⟩
        all_goals first | omega | (simp [go_sem]; done) | (simp [go_sem]; omega)
  case rest =>
    obtain ⟨B, C, rfl, rfl, hBR, hU, hV, hZ, hB⟩ := hcut
    clear g1
    obtain ⟨hA, hE, _⟩ := bx3_at 29 w x0 y0 x1 y1 x2 y2
    have hA := hA.bel hB
    have hE := hE.bel hB
    have hb0 : Bel w wc := bel_step (bx3_bel 29 w x0 y0 x1 y1 x2 y2) hB
    clear hR hB
    have hR : ∀ w', Bel wc w' → w'.cell? ⟨w.heap.size, 0, none⟩ = some (.int .i64 x0) ∧ w'.cell? ⟨w.heap.size, 1, none⟩ = some (.int .i64 y0) ∧ w'.cell? ⟨w.heap.size + 1, 0, none⟩ = some (.int .i64 x1) ∧ w'.cell? ⟨w.heap.size + 1, 1, none⟩ = some (.int .i64 y1) ∧ w'.cell? ⟨B, 0, none⟩ = some (.int .i64 (x1 - x0)) ∧ w'.cell? ⟨B, 1, none⟩ = some (.int .i64 (y1 - y0)) ∧ w'.cell? ⟨C, 0, none⟩ = some (.int .i64 (x2 - x0)) ∧ w'.cell? ⟨C, 1, none⟩ = some (.int .i64 (y2 - y0)) ∧ w'.cell? ⟨w.heap.size + 1 + 1 + 1, 0, none⟩ = some (.int .i64 0) ∧ w'.cell? ⟨w.heap.size + 1 + 1 + 1, 1, none⟩ = some (.int .i64 0) ∧ w'.frozen? ⟨w.heap.size + 1 + 1 + 1, 0, none⟩ = false ∧ w'.frozen? ⟨w.heap.size + 1 + 1 + 1, 1, none⟩ = false :=
      fun w' h => ⟨(hA.bel h).c0, (hA.bel h).c1, (hE.bel h).c0, (hE.bel h).c1, (hU.bel h).c0, (hU.bel h).c1, (hV.bel h).c0, (hV.bel h).c1, (hZ.bel h).c0, (hZ.bel h).c1, (hZ.bel h).fr 0, (hZ.bel h).fr 1⟩
    have g0 : Bel wc wc := Bel.refl _
    have HN : Hid (NF w B x0 y0 x1 y1 (x1 - x0) (y1 - y0) wc) := ⟨hb0, hE, hA, hU, ⟨0, 0, hZ⟩, hBR⟩
    clear hA hE hU hV hZ hBR
    go_wp2
    go_cut [9, 10] (fun t u wx => t = .int .i64 ((x1 - x0) * (x2 - x0) + (y1 - y0) * (y2 - y0)) ∧ u = .int .i64 ((x1 - x0) * (x1 - x0) + (y1 - y0) * (y1 - y0)) ∧ Bel wc wx)
    case first =>
      go_region_held3 (fun w' => Bel wc w') (with_reducible (repeat (first | exact g0 | refine Bel.drew ?_ | assumption | refine bel_then (by assumption) ?_)))
        (first
          | (go_at_call 51; refine (dot_any _ _ _ _ _ (by assumption) (by assumption) (by assumption) (by assumption)).mono ?_; rintro e w' ⟨rfl, hbk⟩))
      all_goals
        go_wp2_with fail
        go_meet
        case rel => exact ⟨rfl, rfl, by assumption⟩
    case rest =>
      obtain ⟨rfl, rfl, hX⟩ := hcut
      clear g0
      have hpos := @uv_pos x0 y0 x1 y1 x2 y2
      have hfa := @foot_ok x0 y0 x1 y1 x2 y2 a b
      unfold uvOf dsq at *
      by_cases h1 : (x1 - x0) * (x2 - x0) + (y1 - y0) * (y2 - y0) ≤ 0
      · obtain ⟨eX, eY⟩ := foot_a h1
        clear hpos hfa
        have EX : Hid (footX x0 y0 x1 y1 x2 y2 = x0) := eX
        have EY : Hid (footY x0 y0 x1 y1 x2 y2 = y0) := eY
        clear eX eY
        go_wp2
        exact bodyPost_ret (v := pt x0 y0) (by simp [results, Try.results69, go_sem, hR _ hX]) rfl ⟨ret_pt EX.symm EY.symm, bel_s3 (bel_s3 (bel_step hb0 hX) _ _) _ _⟩
      · have hu := hpos (by omega)
        clear hpos
        have hne : ¬ x0 = x1 ∨ ¬ y0 = y1 := by
          by_cases e : x0 = x1
          · refine .inr fun e' => ?_
            subst e
            subst e'
            simp at hu
          · exact .inl e
        by_cases h2 : (x1 - x0) * (x1 - x0) + (y1 - y0) * (y1 - y0) ≤ (x1 - x0) * (x2 - x0) + (y1 - y0) * (y2 - y0)
        · obtain ⟨eX, eY⟩ := foot_b h1 h2
          have EX : Hid (footX x0 y0 x1 y1 x2 y2 = x1) := eX
          have EY : Hid (footY x0 y0 x1 y1 x2 y2 = y1) := eY
          clear eX eY hfa
          rcases hne with hne | hne
          all_goals
            go_wp2
            exact bodyPost_ret (v := pt x1 y1) (by simp [results, Try.results69, go_sem, hR _ hX]) rfl ⟨ret_pt EX.symm EY.symm, bel_s3 (bel_s3 (bel_step hb0 hX) _ _) _ _⟩
        · obtain ⟨eX, eY⟩ := foot_m h1 h2
          rw [eX, eY] at hfa
          obtain ⟨f0, f1, f2, f3⟩ := hfa
          have rX : IntKind.i64.wrap (x0 + shareOf (x1 - x0) ((x1 - x0) * (x2 - x0) + (y1 - y0) * (y2 - y0)) ((x1 - x0) * (x1 - x0) + (y1 - y0) * (y1 - y0))) = x0 + shareOf (x1 - x0) ((x1 - x0) * (x2 - x0) + (y1 - y0) * (y2 - y0)) ((x1 - x0) * (x1 - x0) + (y1 - y0) * (y1 - y0)) := by rw [IntKind.wrap_i64]; omega
          have rY : IntKind.i64.wrap (y0 + shareOf (y1 - y0) ((x1 - x0) * (x2 - x0) + (y1 - y0) * (y2 - y0)) ((x1 - x0) * (x1 - x0) + (y1 - y0) * (y1 - y0))) = y0 + shareOf (y1 - y0) ((x1 - x0) * (x2 - x0) + (y1 - y0) * (y2 - y0)) ((x1 - x0) * (x1 - x0) + (y1 - y0) * (y1 - y0)) := by rw [IntKind.wrap_i64]; omega
          have EX : Hid (footX x0 y0 x1 y1 x2 y2 = _) := eX
          have EY : Hid (footY x0 y0 x1 y1 x2 y2 = _) := eY
          clear eX eY f0 f1 f2 f3
          have hN := NF.bel HN hX
          clear hR HN
          have hR : ∀ w', NF w B x0 y0 x1 y1 (x1 - x0) (y1 - y0) w' → w'.cell? ⟨w.heap.size, 0, none⟩ = some (.int .i64 x0) ∧ w'.cell? ⟨w.heap.size, 1, none⟩ = some (.int .i64 y0) ∧ w'.cell? ⟨w.heap.size + 1, 0, none⟩ = some (.int .i64 x1) ∧ w'.cell? ⟨w.heap.size + 1, 1, none⟩ = some (.int .i64 y1) ∧ w'.cell? ⟨B, 0, none⟩ = some (.int .i64 (x1 - x0)) ∧ w'.cell? ⟨B, 1, none⟩ = some (.int .i64 (y1 - y0)) ∧ w'.frozen? ⟨w.heap.size + 1 + 1 + 1, 0, none⟩ = false ∧ w'.frozen? ⟨w.heap.size + 1 + 1 + 1, 1, none⟩ = false :=
            fun w' h => ⟨h.a.c0, h.a.c1, h.e.c0, h.e.c1, h.u.c0, h.u.c1, h.r.elim fun _ h => h.elim fun _ h => h.fr 0, h.r.elim fun _ h => h.elim fun _ h => h.fr 1⟩
          obtain ⟨a0, a1, a2, a3⟩ := a
          obtain ⟨b0, b1, b2, b3⟩ := b
          rcases hne with hne | hne
          all_goals
            go_wp2
            go_region_held3 (fun w' => NF w B x0 y0 x1 y1 (x1 - x0) (y1 - y0) w') (with_reducible (repeat (first | exact hN | refine NF.drew ?_ | refine NF.set1 ?_ _ | refine NF.set0 ?_ _ | assumption | refine NF.bel (by assumption) (by assumption))))
              (first
                | (go_at_call 82; refine (share_any _ _ _ _ ?_ ?_ ?_ ?_ ?_ ?_).mono ?_ <;> first | omega | (rintro e w' ⟨rfl, hbk⟩; obtain ⟨r0, r1, hr⟩ := (NF.bel (w := w) (B := B) (x0 := x0) (y0 := y0) (x1 := x1) (y1 := y1) (ux := x1 - x0) (uy := y1 - y0) (by assumption) hbk).r; have hr0 := hr.c0; have hr1 := hr.c1; clear hr)))
            all_goals
              go_wp2
              exact bodyPost_ret (v := pt (x0 + shareOf (x1 - x0) ((x1 - x0) * (x2 - x0) + (y1 - y0) * (y2 - y0)) ((x1 - x0) * (x1 - x0) + (y1 - y0) * (y1 - y0))) (y0 + shareOf (y1 - y0) ((x1 - x0) * (x2 - x0) + (y1 - y0) * (y2 - y0)) ((x1 - x0) * (x1 - x0) + (y1 - y0) * (y1 - y0)))) (by simp [results, Try.results69, go_sem, *]) rfl ⟨ret_pt EX.symm EY.symm, (by assumption : NF w B x0 y0 x1 y1 (x1 - x0) (y1 - y0) _).b⟩
end Go.Proofs.Ytkknbapcbcialaa
