/-
  Contracts of Near, in the program and in its model: for every row of at most 2 to the 20th points, and every point.
-/
import Derived.Test.YtkknbapcbcialaaNearS
namespace Go.Proofs.Ytkknbapcbcialaa
open Go.RowKit

/-- Near as both tell it. -/
def nearV (n : Nat) (X Y : Nat → Int) (px py : Int) : Value := if rowB n X Y && pok px py then nrV n X Y px py (legs n) else ft (-1) 0 0 0 0

/-- What lies in memory behind k stretches, in the program. -/
structure NiAt (w : World) (B n : Nat) (X Y : Nat → Int) (px py : Int) (k : Nat) (wr : World) : Prop where
  p : PtAt wr w.heap.size px py
  r : Room wr (w.heap.size + 1) 5
  f : Five wr B (nrL n X Y px py k) (nrA n X Y px py k) (nrX n X Y px py k) (nrY n X Y px py k) (nrF n X Y px py k)
  b : Bel w wr
theorem NiAt.bel {w : World} {B n : Nat} {X Y : Nat → Int} {px py : Int} {k : Nat} {a b : World} (h : NiAt w B n X Y px py k a) (hb : Bel a b) : NiAt w B n X Y px py k b := ⟨h.p.bel hb, h.r.bel hb, h.f.bel hb, bel_step h.b hb⟩

theorem footOn_leg (n : Nat) (X Y : Nat → Int) (px py : Int) (k : Nat) (w : World) (a : POk (X k) (Y k)) (b : POk (X (toI n k)) (Y (toI n k))) (c : POk px py) :
    Calls Try.prog 37 #[pt (X k) (Y k), pt (X (toI n k)) (Y (toI n k)), pt px py] w fun e w' => e = .returned (ft 0 (legA n X Y px py k) (legX n X Y px py k) (legY n X Y px py k) (legF n X Y px py k)) ∧ Bel w w' :=
  footOn_any _ _ _ _ _ _ w a b c

theorem near_start (w : World) (px py : Int) : PtAt ((w.alloc (.cells #[.int .i64 px, .int .i64 py] 29)).alloc (.cells #[.int .i64 0, .int .i64 0, .int .i64 0, .int .i64 0, .int .i64 0] 32)) w.heap.size px py ∧ Room ((w.alloc (.cells #[.int .i64 px, .int .i64 py] 29)).alloc (.cells #[.int .i64 0, .int .i64 0, .int .i64 0, .int .i64 0, .int .i64 0] 32)) (w.heap.size + 1) 5 ∧ Bel w ((w.alloc (.cells #[.int .i64 px, .int .i64 py] 29)).alloc (.cells #[.int .i64 0, .int .i64 0, .int .i64 0, .int .i64 0, .int .i64 0] 32)) := by
  have b1 : ∀ (v : World) (o : Obj), Bel v (v.alloc o) := fun v o => bel_alloc (Bel.refl _) _
  refine ⟨(PtAt.new w px py _).bel (b1 _ _), ?_, bel_step (b1 _ _) (b1 _ _)⟩
  have := (Five.new (w.alloc (.cells #[.int .i64 px, .int .i64 py] 29)) 0 0 0 0 0 32).room
  simpa using this

set_option maxRecDepth 100000 in
set_option maxHeartbeats 4000000 in
theorem near_ok (a : Option Addr) (n c : Nat) (X Y : Nat → Int) (px py : Int) (w : World) (hP : Pts w a n X Y) (hn : n ≤ 1048576) (hr : rowB n X Y = true) (hn0 : 0 < n) (hp : pok px py = true) :
    Calls Try.prog 12 #[.slice a n c, pt px py] w fun e w' => e = .returned (nrV n X Y px py (legs n)) ∧ Bel w w' := by
  obtain ⟨hn', hok⟩ := rowB_out hr
  have hpp := pOk_iff.1 hp
  have hne : ((n : Int) == 0) = false := by simp; omega
  have hne' : ¬ (n : Int) = 0 := by omega
  obtain ⟨sp, sr, sb⟩ := near_start w px py
  rcases hP with h | ⟨b, off, rfl, h2, h3⟩
  · omega
  have HP : Hid (∀ i, i < n → w.cell? ⟨b, off + i * 2, none⟩ = some (.int .i64 (X i)) ∧ w.cell? ⟨b, off + i * 2 + 1, none⟩ = some (.int .i64 (Y i))) := h3
  have hP : Pts w (some ⟨b, off, none⟩) n X Y := .inr ⟨b, off, rfl, h2, h3⟩
  clear h3
  go_enter Try.func12, Try.ntmps12
  go_wp2_with fail
  refine (rowOk_any _ _ _ _ _ _ (hP.bel sb) hn).mono ?_
  rintro e w1 ⟨rfl, hb1⟩
  have p1 := (sp.bel hb1).c0
  have p2 := (sp.bel hb1).c1
  go_wp2_with fail
  refine (pointOk_any _ _ _).mono ?_
  rintro e w2 ⟨rfl, hb2⟩
  have hB2 := bel_step hb1 hb2
  have hp2 := sp.bel hB2
  have hr2 := sr.bel hB2
  have hw2 := bel_step sb hB2
  clear sp sr sb hb1 hb2 hB2 p1 p2 hP
  have ht : toI n 0 < n := toI_lt hn0
  have hmin : min 1 ((n : Int) - 1) = ((toI n 0 : Nat) : Int) := by unfold toI; split <;> omega
  have hwn : IntKind.i64.wrap ((n : Int) - 1) = (n : Int) - 1 := by rw [IntKind.wrap_i64]; omega
  have ht' : ((toI n 0 : Nat) : Int) < (n : Int) := by omega
  have hn0' : (0 : Int) < (n : Int) := by omega
  obtain ⟨a0, a1⟩ := HP.out 0 hn0
  obtain ⟨d0, d1⟩ := HP.out _ ht
  simp only [Nat.zero_mul, Nat.add_zero] at a0 a1
  have hR : ∀ w', Bel w2 w' → w'.cell? ⟨b, off, none⟩ = some (.int .i64 (X 0)) ∧ w'.cell? ⟨b, off + 1, none⟩ = some (.int .i64 (Y 0)) ∧ w'.cell? ⟨b, off + toI n 0 * 2, none⟩ = some (.int .i64 (X (toI n 0))) ∧ w'.cell? ⟨b, off + toI n 0 * 2 + 1, none⟩ = some (.int .i64 (Y (toI n 0))) ∧ w'.cell? ⟨w.heap.size, 0, none⟩ = some (.int .i64 px) ∧ w'.cell? ⟨w.heap.size, 1, none⟩ = some (.int .i64 py) :=
    fun w' h => ⟨bel_cell (bel_step hw2 h) h2 a0, bel_cell (bel_step hw2 h) h2 a1, bel_cell (bel_step hw2 h) h2 d0, bel_cell (bel_step hw2 h) h2 d1, (hp2.bel h).c0, (hp2.bel h).c1⟩
  have g0 : Bel w2 w2 := Bel.refl _
  have pa := hok 0 hn0
  have pb := hok _ ht
  clear a0 a1 d0 d1
  go_wp2
  go_cut [5] (fun t wx => ∃ B, t = .pointer (some ⟨B, 0, none⟩) ∧ w2.heap.size ≤ B ∧ Five wx B 0 (legA n X Y px py 0) (legX n X Y px py 0) (legY n X Y px py 0) (legF n X Y px py 0) ∧ Bel w2 wx)
  case first =>
    clear hok HP hn hr hp hp2 hr2 hw2
    go_region_held3 (fun w' => Bel w2 w') (with_reducible (repeat (first | exact g0 | refine Bel.drew ?_ | refine bel_alloc ?_ _ | refine bel_set ?_ (Nat.le_refl _) _ | refine bel_set2 ?_ (by assumption) _ | assumption | refine bel_then (by assumption) ?_)))
      (first
        | (go_at_call 37; refine (footOn_leg n X Y px py 0 _ pa pb hpp).mono ?_; rintro e w' ⟨rfl, hbk⟩; first | (refine (fun hq : Five w' w2.heap.size 0 0 0 0 0 => ?_) (Five.bel (Five.new w2 0 0 0 0 0 32) (bel_step (Bel.drew (Bel.refl _)) hbk)); have HQ : Hid (Room w' w2.heap.size 5) := hq.room; obtain ⟨el, e0, e1, e2, e3, e4, ef⟩ := hq; have e5 := ef 0; have e6 := ef 1; have e7 := ef 2; have e8 := ef 3; have e9 := ef 4; clear ef) | skip))
    all_goals
      go_wp2_with fail
      go_meet
      case rel =>
        refine ⟨_, rfl, ?_, ?_, by with_reducible assumption⟩
        · first | with_reducible exact Nat.le_refl _ | exact hbk.out.size
        · first | with_reducible exact Five.new _ _ _ _ _ _ _ | exact HQ.out.put5 _ _ _ _ _
  case rest =>
    clear hR g0 pa pb hmin ht ht' hwn
    obtain ⟨B, rfl, hBw, hF, hBc⟩ := hcut
    have hBR : w.heap.size + 1 < B := Nat.lt_of_lt_of_le hr2.lt hBw
    have H0 : NiAt w B n X Y px py 1 wc := ⟨hp2.bel hBc, hr2.bel hBc, hF, bel_step hw2 hBc⟩
    have H0' : Hid (NiAt w B n X Y px py 1 wc) := H0
    clear hp2 hr2 hw2 hF hBw hBc H0
    go_wp2
    go_loopw [6] (fun i wr => ∃ k : Nat, (1 ≤ k ∧ (k + 1 ≤ n ∨ k = 1)) ∧ i = .int .i64 ((k : Int) + 1) ∧ NiAt w B n X Y px py k wr) (fun i _ => n - (intOf i).toNat)
    case atStart => exact ⟨1, by omega, rfl, H0'⟩
    case round =>
      clear H0'
      obtain ⟨k, hk, rfl, hN⟩ := hrel
      by_cases hlt : k + 1 < n
      · obtain ⟨V, hV⟩ : ∃ V : World, V = wr := ⟨wr, rfl⟩
        subst hV
        have et : X (toI n k) = X (k + 1) ∧ Y (toI n k) = Y (k + 1) := by rw [show toI n k = k + 1 from if_pos hlt]; exact ⟨rfl, rfl⟩
        have hlt' : (k : Int) + 1 < (n : Int) := by omega
        have hltk : (k : Int) < (n : Int) := by omega
        have hj0 : (0 : Int) ≤ (k : Int) := by omega
        have hj1 : (0 : Int) ≤ (k : Int) + 1 := by omega
        have htn : ((k : Int) + 1).toNat = k + 1 := by omega
        have hwj : IntKind.i64.wrap (k : Int) = k := by rw [IntKind.wrap_i64]; omega
        have hwj1 : IntKind.i64.wrap ((k : Int) + 1) = k + 1 := by rw [IntKind.wrap_i64]; omega
        have pa := hok k (by omega)
        have pb := hok (toI n k) (toI_lt (by omega))
        have c0 := bel_cell hN.b h2 (HP.out k (by omega)).1
        have c1 := bel_cell hN.b h2 (HP.out k (by omega)).2
        have d0 := bel_cell hN.b h2 (HP.out (k + 1) hlt).1
        have d1 := bel_cell hN.b h2 (HP.out (k + 1) hlt).2
        rw [← et.1] at d0
        rw [← et.2] at d1
        have hbV := bel_lt hN.b h2
        have hR : ∀ w', Bel V w' → w'.cell? ⟨b, off + k * 2, none⟩ = some (.int .i64 (X k)) ∧ w'.cell? ⟨b, off + k * 2 + 1, none⟩ = some (.int .i64 (Y k)) ∧ w'.cell? ⟨b, off + (k + 1) * 2, none⟩ = some (.int .i64 (X (toI n k))) ∧ w'.cell? ⟨b, off + (k + 1) * 2 + 1, none⟩ = some (.int .i64 (Y (toI n k))) ∧ w'.cell? ⟨w.heap.size, 0, none⟩ = some (.int .i64 px) ∧ w'.cell? ⟨w.heap.size, 1, none⟩ = some (.int .i64 py) :=
          fun w' h => ⟨bel_cell h hbV c0, bel_cell h hbV c1, bel_cell h hbV d0, bel_cell h hbV d1, (hN.p.bel h).c0, (hN.p.bel h).c1⟩
        have g0 : Bel V V := Bel.refl _
        have HN : Hid (NiAt w B n X Y px py k V) := hN
        clear hN c0 c1 d0 d1 hbV et
        go_wp2
        go_cut [7] (fun t wx => ∃ Q, t = .pointer (some ⟨Q, 0, none⟩) ∧ V.heap.size ≤ Q ∧ Five wx Q 0 (legA n X Y px py k) (legX n X Y px py k) (legY n X Y px py k) (legF n X Y px py k) ∧ Bel V wx)
        case first =>
          clear HN hok HP hn hr hp hne hne' hn0 hn' hn0' hk hBR
          go_region_held3 (fun w' => Bel V w') (with_reducible (repeat (first | exact g0 | refine Bel.drew ?_ | refine bel_alloc ?_ _ | refine bel_set ?_ (Nat.le_refl _) _ | refine bel_set2 ?_ (by assumption) _ | assumption | refine bel_then (by assumption) ?_)))
            (first
              | (go_at_call 37; refine (footOn_leg n X Y px py k _ pa pb hpp).mono ?_; rintro e w' ⟨rfl, hbk⟩; first | (refine (fun hq : Five w' V.heap.size 0 0 0 0 0 => ?_) (Five.bel (Five.new V 0 0 0 0 0 32) (bel_step (Bel.drew (Bel.refl _)) hbk)); have HQ : Hid (Room w' V.heap.size 5) := hq.room; obtain ⟨el, e0, e1, e2, e3, e4, ef⟩ := hq; have e5 := ef 0; have e6 := ef 1; have e7 := ef 2; have e8 := ef 3; have e9 := ef 4; clear ef) | skip))
          all_goals
            go_wp2_with fail
            go_meet
            case rel =>
              refine ⟨_, rfl, ?_, ?_, by with_reducible assumption⟩
              · first | with_reducible exact Nat.le_refl _ | exact hbk.out.size
              · first | with_reducible exact Five.new _ _ _ _ _ _ _ | exact HQ.out.put5 _ _ _ _ _
        case rest =>
          clear hR g0 pa pb
          obtain ⟨Q, rfl, hQV, hQ, hbQ⟩ := hcut
          obtain ⟨Z, hZ⟩ : ∃ Z : World, Z = wc := ⟨wc, rfl⟩
          subst hZ
          have hBV := HN.out.f.lt
          have hN := HN.out.bel hbQ
          have hQB : Q ≠ B := by omega
          obtain ⟨fl, f0, f1, f2, f3, f4, ff⟩ := hN.f
          obtain ⟨ql, q0, q1, q2, q3, q4, _⟩ := hQ
          by_cases hf : legF n X Y px py k < nrF n X Y px py k
          · obtain ⟨n0, n1, n2, n3, n4⟩ := near_take (.inr hf)
            have HM : Hid (NiAt w B n X Y px py (k + 1) ((set5 Z B 0 (legA n X Y px py k) (legX n X Y px py k) (legY n X Y px py k) (legF n X Y px py k)).setCell ⟨B, 0, none⟩ (.int .i64 k))) := by
              refine ⟨?_, ?_, ?_, ?_⟩
              · exact (((((hN.p.other (by omega) _ _).other (by omega) _ _).other (by omega) _ _).other (by omega) _ _).other (by omega) _ _).other (by omega) _ _
              · exact (((((hN.r.far (by omega) _ _).far (by omega) _ _).far (by omega) _ _).far (by omega) _ _).far (by omega) _ _).far (by omega) _ _
              · rw [n0, n1, n2, n3, n4]
                exact (hN.f.room.put5 _ _ _ _ _).set0 _
              · exact bel_set (bel_set5 hN.b (by omega) _ _ _ _ _) (by show w.heap.size ≤ B; omega) _
            have z0 := ff 0
            have z1 := ff 1
            have z2 := ff 2
            have z3 := ff 3
            have z4 := ff 4
            clear n0 n1 n2 n3 n4 hN ff HN
            go_wp2
            go_roundw
            case rel => exact ⟨k + 1, by omega, by go_num, HM.out⟩
            case measure => simp [intOf]; omega
          · obtain ⟨n0, n1, n2, n3, n4⟩ := near_skip (show k ≠ 0 by omega) hf
            have HM : Hid (NiAt w B n X Y px py (k + 1) Z) := ⟨hN.p, hN.r, by rw [n0, n1, n2, n3, n4]; exact hN.f, hN.b⟩
            clear n0 n1 n2 n3 n4 hN ff HN
            go_wp2
            go_roundw
            case rel => exact ⟨k + 1, by omega, by go_num, HM.out⟩
            case measure => simp [intOf]; omega
      · have hl : legs n = k := by unfold legs; split <;> omega
        have hlt' : ¬ (k : Int) + 1 < (n : Int) := by omega
        have HX := hN.r.put5 (nrL n X Y px py k) (nrA n X Y px py k) (nrX n X Y px py k) (nrY n X Y px py k) (nrF n X Y px py k)
        have HB := bel_set5 hN.b (by omega : w.heap.size ≤ w.heap.size + 1) (nrL n X Y px py k) (nrA n X Y px py k) (nrX n X Y px py k) (nrY n X Y px py k) (nrF n X Y px py k)
        have HX : Hid (Five (set5 wr (w.heap.size + 1) (nrL n X Y px py k) (nrA n X Y px py k) (nrX n X Y px py k) (nrY n X Y px py k) (nrF n X Y px py k)) (w.heap.size + 1) (nrL n X Y px py k) (nrA n X Y px py k) (nrX n X Y px py k) (nrY n X Y px py k) (nrF n X Y px py k)) := HX
        obtain ⟨r0, hr0⟩ := hN.r.there 0 (by decide)
        obtain ⟨r1, hr1⟩ := hN.r.there 1 (by decide)
        obtain ⟨r2, hr2⟩ := hN.r.there 2 (by decide)
        obtain ⟨r3, hr3⟩ := hN.r.there 3 (by decide)
        obtain ⟨r4, hr4⟩ := hN.r.there 4 (by decide)
        have q0 := hN.r.fr 0
        have q1 := hN.r.fr 1
        have q2 := hN.r.fr 2
        have q3 := hN.r.fr 3
        have q4 := hN.r.fr 4
        obtain ⟨_, f0, f1, f2, f3, f4, _⟩ := hN.f
        clear hN
        go_wp2
        obtain ⟨_, y0, y1, y2, y3, y4, _⟩ := HX.out
        exact bodyPost_ret (v := nrV n X Y px py k) (by simp [results, Try.results12, go_sem, y0, y1, y2, y3, y4]) rfl ⟨rfl, HB⟩
end Go.Proofs.Ytkknbapcbcialaa
