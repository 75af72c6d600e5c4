/-
  Contract of the model's nearest place of a row: for every row of points that can be.
-/
import Derived.Test.YtoeaplcijdlhnaaFootO
namespace Go.Proofs.Ytoeaplcijdlhnaa
open Go.RowKit

/-- The place of a row as a value, behind k stretches. -/
abbrev nrV (n : Nat) (X Y : Nat → Int) (px py : Int) (k : Nat) : Value := ft (nrL n X Y px py k) (nrA n X Y px py k) (nrX n X Y px py k) (nrY n X Y px py k) (nrF n X Y px py k)
/-- What lies in memory behind k stretches. -/
structure NrAt (w : World) (n : Nat) (X Y : Nat → Int) (px py : Int) (k : Nat) (wr : World) : Prop where
  p : PtAt wr w.heap.size px py
  r : Room wr (w.heap.size + 1) 5
  f : Five wr (w.heap.size + 1 + 1) (nrL n X Y px py k) (nrA n X Y px py k) (nrX n X Y px py k) (nrY n X Y px py k) (nrF n X Y px py k)
  b : Bel w wr
theorem NrAt.bel {w : World} {n : Nat} {X Y : Nat → Int} {px py : Int} {k : Nat} {a b : World} (h : NrAt w n X Y px py k a) (hb : Bel a b) : NrAt w n X Y px py k b := ⟨h.p.bel hb, h.r.bel hb, h.f.bel hb, bel_step h.b hb⟩

theorem But.roomAt {w W : World} {B m : Nat} {a : World} (h : But w W B m a) {C l : Nat} (p : Room W C l) (hn : C ≠ B) : Room a C l :=
  ⟨Nat.lt_of_lt_of_le p.lt h.size, fun j hj => (p.there j hj).elim fun z e => ⟨z, h.read p.lt hn e⟩, fun j => by rw [h.froz C j p.lt]; exact p.fr j⟩

theorem NrAt.step {w : World} {n : Nat} {X Y : Nat → Int} {px py : Int} {k : Nat} {U a : World} (h : But w U (w.heap.size + 1 + 1) 5 a) (hM : NrAt w n X Y px py k U)
    (hF : Five a (w.heap.size + 1 + 1) (nrL n X Y px py (k + 1)) (nrA n X Y px py (k + 1)) (nrX n X Y px py (k + 1)) (nrY n X Y px py (k + 1)) (nrF n X Y px py (k + 1))) : NrAt w n X Y px py (k + 1) a :=
  ⟨h.at hM.p (by omega), h.roomAt hM.r (by omega), hF, h.b⟩

set_option maxRecDepth 100000 in
set_option maxHeartbeats 4000000 in
theorem l1Near_any (a : Option Addr) (n c : Nat) (X Y : Nat → Int) (px py : Int) (w : World) (hP : Pts w a n X Y) (hn : n ≤ 2000) (hok : ∀ i, i < n → POk (X i) (Y i)) (hp : POk px py) :
    Calls Try.prog 52 #[.slice a n c, pt px py] w fun e w' => e = .returned (nrV n X Y px py (legs n)) ∧ Bel w w' := by
  have H0 : NrAt w n X Y px py 0 (((w.alloc (.cells #[.int .i64 px, .int .i64 py] 25)).alloc (.cells #[.int .i64 0, .int .i64 0, .int .i64 0, .int .i64 0, .int .i64 0] 44)).alloc (.cells #[.int .i64 (-1), .int .i64 0, .int .i64 0, .int .i64 0, .int .i64 0] 44)) := by
    have b1 : ∀ (v : World) (o : Obj), Bel v (v.alloc o) := fun v o => bel_alloc (Bel.refl _) _
    refine ⟨((PtAt.new w px py _).bel (b1 _ _)).bel (b1 _ _), ?_, ?_, bel_step (bel_step (b1 _ _) (b1 _ _)) (b1 _ _)⟩
    · have := (Five.new (w.alloc (.cells #[.int .i64 px, .int .i64 py] 25)) 0 0 0 0 0 44).room.bel (b1 _ (.cells #[.int .i64 (-1), .int .i64 0, .int .i64 0, .int .i64 0, .int .i64 0] 44))
      simpa using this
    · have := Five.new ((w.alloc (.cells #[.int .i64 px, .int .i64 py] 25)).alloc (.cells #[.int .i64 0, .int .i64 0, .int .i64 0, .int .i64 0, .int .i64 0] 44)) (-1) 0 0 0 0 44
      simpa [nrL, nrA, nrX, nrY, nrF] using this
  have H0' : Hid (NrAt w n X Y px py 0 _) := H0
  clear H0
  go_enter Try.func52, Try.ntmps52
  go_wp2
  go_loopw [6] (fun i wr => ∃ k : Nat, (k ≤ n ∧ (k + 1 ≤ n ∨ n ≤ 1)) ∧ i = .int .i64 k ∧ NrAt w n X Y px py k wr) (fun i _ => n - (intOf i).toNat)
  case atStart => exact ⟨0, by omega, rfl, H0'⟩
  case round =>
    clear H0'
    obtain ⟨k, hk, rfl, hN⟩ := hrel
    by_cases hlt : k < n
    · by_cases hbr : 0 < k ∧ k + 1 = n
      · obtain ⟨hk0, hkn⟩ := hbr
        have hl : legs n = k := by unfold legs; split <;> omega
        have hk0' : (0 : Int) < (k : Int) := by omega
        have hlt' : (k : Int) < (n : Int) := by omega
        have hkn' : (k : Int) = (n : Int) - 1 := by omega
        have HX := hN.r.put5 (nrL n X Y px py k) (nrA n X Y px py k) (nrX n X Y px py k) (nrY n X Y px py k) (nrF n X Y px py k)
        have HB := bel_set5 hN.b (by omega : w.heap.size ≤ w.heap.size + 1) (nrL n X Y px py k) (nrA n X Y px py k) (nrX n X Y px py k) (nrY n X Y px py k) (nrF n X Y px py k)
        have HX : Hid (Five (set5 wr (w.heap.size + 1) (nrL n X Y px py k) (nrA n X Y px py k) (nrX n X Y px py k) (nrY n X Y px py k) (nrF n X Y px py k)) (w.heap.size + 1) (nrL n X Y px py k) (nrA n X Y px py k) (nrX n X Y px py k) (nrY n X Y px py k) (nrF n X Y px py k)) := HX
        obtain ⟨r0, hr0⟩ := hN.r.there 0 (by decide)
        obtain ⟨r1, hr1⟩ := hN.r.there 1 (by decide)
        obtain ⟨r2, hr2⟩ := hN.r.there 2 (by decide)
        obtain ⟨r3, hr3⟩ := hN.r.there 3 (by decide)
        obtain ⟨r4, hr4⟩ := hN.r.there 4 (by decide)
        have q0 := hN.r.fr 0
        have q1 := hN.r.fr 1
        have q2 := hN.r.fr 2
        have q3 := hN.r.fr 3
        have q4 := hN.r.fr 4
        obtain ⟨_, f0, f1, f2, f3, f4, _⟩ := hN.f
        clear hN
        go_wp2
        obtain ⟨_, y0, y1, y2, y3, y4, _⟩ := HX.out
        exact bodyPost_ret (v := nrV n X Y px py k) (by simp [results, Try.results52, go_sem, y0, y1, y2, y3, y4]) rfl ⟨by rw [hl], HB⟩
      · have hbr' : k = 0 ∨ k + 1 < n := by omega
        have ht := toI_lt hlt
        have hlt' : (k : Int) < (n : Int) := by omega
        rcases hP with h | ⟨b, off, rfl, h2w, h3w⟩
        · omega
        have h2 := bel_lt hN.b h2w
        have h3 : ∀ i, i < n → wr.cell? ⟨b, off + i * 2, none⟩ = some (.int .i64 (X i)) ∧ wr.cell? ⟨b, off + i * 2 + 1, none⟩ = some (.int .i64 (Y i)) := fun i hi => ⟨bel_cell hN.b h2w (h3w i hi).1, bel_cell hN.b h2w (h3w i hi).2⟩
        clear h3w
        obtain ⟨cx, cy⟩ := h3 k hlt
        go_upto_region 5 with fail
        go_cut [25] (fun t wx => t = .bool false ∧ wx = wr)
        case first =>
          rcases hbr' with hk0 | hk1
          · subst hk0
            go_wp2
            go_meet
            case rel => exact ⟨rfl, rfl⟩
          · have hk2 : ¬ (k : Int) = (n : Int) - 1 := by omega
            go_wp2
            all_goals go_meet
            all_goals first | exact ⟨rfl, rfl⟩ | exact ⟨by simp [hk2], rfl⟩
        case rest =>
          obtain ⟨rfl, rfl⟩ := hcut
          obtain ⟨V, hV⟩ : ∃ V : World, V = wc := ⟨wc, rfl⟩
          subst hV
          have hbb := hN.b
          have hVb : b < V.heap.size := h2
          have hk1 : IntKind.i64.wrap ((k : Int) + 1) = (k : Int) + 1 := by rw [IntKind.wrap_i64]; omega
          go_upto_if 34 with fail
          go_cut [] (fun wx => PtAt wx V.heap.size (X (toI n k)) (Y (toI n k)) ∧ Bel V wx)
          case first =>
            by_cases hlast : k + 1 < n
            · have et : toI n k = k + 1 := if_pos hlast
              have hlast' : (k : Int) + 1 < (n : Int) := by omega
              have htn : ((k : Int) + 1).toNat = k + 1 := by omega
              have hj1 : (0 : Int) ≤ (k : Int) + 1 := by omega
              obtain ⟨dx, dy⟩ := h3 (k + 1) hlast
              clear h3
              go_wp2
              go_meet
              case rel =>
                rw [et]
                exact ⟨PtAt.new _ _ _ _, bel_alloc (Bel.refl _) _⟩
            · have et : toI n k = k := if_neg hlast
              have hlast' : ¬ (k : Int) + 1 < (n : Int) := by omega
              clear h3
              go_wp2
              go_meet
              case rel =>
                rw [et]
                exact ⟨PtAt.new _ _ _ _, bel_alloc (Bel.refl _) _⟩
          case rest =>
            obtain ⟨hT, hbT⟩ := hcut
            obtain ⟨W, hW⟩ : ∃ W : World, W = wc := ⟨wc, rfl⟩
            subst hW
            have hM := hN.bel hbT
            have hC0 := bel_cell hbT h2 cx
            have hC1 := bel_cell hbT h2 cy
            have hbW := bel_lt hbT h2
            have hR : ∀ w', Bel W w' → w'.cell? ⟨b, off + k * 2, none⟩ = some (.int .i64 (X k)) ∧ w'.cell? ⟨b, off + k * 2 + 1, none⟩ = some (.int .i64 (Y k)) ∧ w'.cell? ⟨V.heap.size, 0, none⟩ = some (.int .i64 (X (toI n k))) ∧ w'.cell? ⟨V.heap.size, 1, none⟩ = some (.int .i64 (Y (toI n k))) ∧ w'.cell? ⟨w.heap.size, 0, none⟩ = some (.int .i64 px) ∧ w'.cell? ⟨w.heap.size, 1, none⟩ = some (.int .i64 py) :=
              fun w' h => ⟨bel_cell h hbW hC0, bel_cell h hbW hC1, (hT.bel h).c0, (hT.bel h).c1, (hM.p.bel h).c0, (hM.p.bel h).c1⟩
            have g0 : Bel W W := Bel.refl _
            have pa := hok k hlt
            have pb := hok _ ht
            have hM : Hid (NrAt w n X Y px py k W) := hM
            have hC : Hid (W.cell? ⟨b, off + k * 2, none⟩ = some (.int .i64 (X k)) ∧ W.cell? ⟨b, off + k * 2 + 1, none⟩ = some (.int .i64 (Y k)) ∧ b < W.heap.size) := ⟨hC0, hC1, hbW⟩
            clear hN hT h3 cx cy hC0 hC1 hbW hbT h2 hVb
            go_wp2
            go_cut [8] (fun t wx => ∃ Q, t = .pointer (some ⟨Q, 0, none⟩) ∧ W.heap.size ≤ Q ∧ PtAt wx Q (legX n X Y px py k) (legY n X Y px py k) ∧ Bel W wx)
            case first =>
              go_region_held3 (fun w' => Bel W w') (with_reducible (repeat (first | exact g0 | refine Bel.drew ?_ | refine bel_alloc ?_ _ | refine bel_set ?_ (Nat.le_refl _) _ | refine bel_set2 ?_ (by assumption) _ | assumption | refine bel_then (by assumption) ?_)))
                (first
                  | (go_at_call 60; refine (l1Foot_any _ _ _ _ _ _ _ pa pb hp).mono ?_; rintro e w' ⟨rfl, hbk⟩; first | (refine (fun hq : PtAt w' W.heap.size 0 0 => ?_) (PtAt.bel (PtAt.new W 0 0 25) (bel_step (Bel.drew (Bel.refl _)) hbk)); have HQ : Hid (PtAt w' W.heap.size 0 0) := hq; obtain ⟨el, e0, e1, ef⟩ := hq; have e2 := ef 0; have e3 := ef 1; clear ef) | skip))
              all_goals
                go_wp2_with fail
                go_meet
                case rel =>
                  refine ⟨_, rfl, ?_, ?_, by assumption⟩
                  · first | exact Nat.le_refl _ | exact hbk.out.size
                  · first | exact PtAt.new _ _ _ _ | exact (HQ.out.set0 _).set1 _
            case rest =>
              clear hR g0
              obtain ⟨Q, rfl, hQW, hQ, hbX⟩ := hcut
              obtain ⟨Z, hZ⟩ : ∃ Z : World, Z = wc := ⟨wc, rfl⟩
              subst hZ
              have hBW := hM.out.f.lt
              have hM := NrAt.bel hM.out hbX
              obtain ⟨c0, c1, hbW⟩ := hC.out
              have hC0 := bel_cell hbX hbW c0
              have hC1 := bel_cell hbX hbW c1
              have hbZ := bel_lt hbX hbW
              have pq : POk (legX n X Y px py k) (legY n X Y px py k) := leg_ok hok hlt
              have hp0 := hM.p.c0
              have hp1 := hM.p.c1
              have hq0 := hQ.c0
              have hq1 := hQ.c1
              clear hC c0 c1 hbW
              go_wp2_with fail
              refine (l1Distance_any _ _ _ _ _ hp pq).mono ?_
              rintro e w2 ⟨rfl, hb2⟩
              clear hp0 hp1 hq0 hq1
              have hM := hM.bel hb2
              have hQ := hQ.bel hb2
              have hC0 := bel_cell hb2 hbZ hC0
              have hC1 := bel_cell hb2 hbZ hC1
              have hb3 := bel_lt hb2 hbZ
              have hQB : Q ≠ w.heap.size + 1 + 1 := by omega
              have f0 := hM.f.c0
              have f4 := hM.f.c4
              obtain ⟨tk, htk⟩ : ∃ tk : Bool, tk = decide (k = 0 ∨ legF n X Y px py k < nrF n X Y px py k) := ⟨_, rfl⟩
              have HTK : Hid (tk = decide (k = 0 ∨ legF n X Y px py k < nrF n X Y px py k)) := htk
              clear htk
              go_upto_region 11 with fail
              go_cut [58] (fun t wx => t = .bool tk ∧ wx = w2)
              case first =>
                by_cases hk0 : k = 0
                · have hneg : nrL n X Y px py k < 0 := by subst hk0; simp [nrL]
                  have ht1 : tk = true := by rw [HTK.out]; simp [hk0]
                  clear HTK hk0
                  go_wp2
                  go_meet
                  case rel => exact ⟨by rw [ht1], rfl⟩
                · have hneg : ¬ nrL n X Y px py k < 0 := by have := nrL_pos (n := n) (X := X) (Y := Y) (px := px) (py := py) hk0; omega
                  have ht1 : Hid (tk = decide (dOf px py (legX n X Y px py k) (legY n X Y px py k) < nrF n X Y px py k)) := by rw [HTK.out]; simp [hk0, legF, Hid]
                  clear HTK hk0
                  go_wp2
                  go_meet
                  case rel => exact ⟨by rw [ht1.out], rfl⟩
              case rest =>
                obtain ⟨rfl, rfl⟩ := hcut
                obtain ⟨U, hU⟩ : ∃ U : World, U = wc := ⟨wc, rfl⟩
                subst hU
                cases tk with
                | false =>
                  have htk : ¬ (k = 0 ∨ legF n X Y px py k < nrF n X Y px py k) := of_decide_eq_false HTK.out.symm
                  obtain ⟨n0, n1, n2, n3, n4⟩ := near_skip (fun e => htk (.inl e)) (fun e => htk (.inr e))
                  have HM : Hid (NrAt w n X Y px py (k + 1) U) := ⟨hM.p, hM.r, by rw [n0, n1, n2, n3, n4]; exact hM.f, hM.b⟩
                  clear n0 n1 n2 n3 n4 htk HTK
                  go_wp2
                  go_roundw
                  case rel => exact ⟨k + 1, by omega, by go_num, HM.out⟩
                  case measure => simp [intOf]; omega
                | true =>
                  have htk : k = 0 ∨ legF n X Y px py k < nrF n X Y px py k := of_decide_eq_true HTK.out.symm
                  have HT := near_take htk
                  have HT : Hid (_ ∧ _ ∧ _ ∧ _ ∧ _) := HT
                  clear htk HTK
                  have g0 := But.start hM.b (by omega : w.heap.size ≤ w.heap.size + 1 + 1) hM.f.room
                  have hR : ∀ w', But w U (w.heap.size + 1 + 1) 5 w' → w'.cell? ⟨b, off + k * 2, none⟩ = some (.int .i64 (X k)) ∧ w'.cell? ⟨b, off + k * 2 + 1, none⟩ = some (.int .i64 (Y k)) ∧ w'.cell? ⟨Q, 0, none⟩ = some (.int .i64 (legX n X Y px py k)) ∧ w'.cell? ⟨Q, 1, none⟩ = some (.int .i64 (legY n X Y px py k)) ∧ w'.frozen? ⟨w.heap.size + 1 + 1, 0, none⟩ = false ∧ w'.frozen? ⟨w.heap.size + 1 + 1, 1, none⟩ = false ∧ w'.frozen? ⟨w.heap.size + 1 + 1, 2, none⟩ = false ∧ w'.frozen? ⟨w.heap.size + 1 + 1, 3, none⟩ = false ∧ w'.frozen? ⟨w.heap.size + 1 + 1, 4, none⟩ = false :=
                    fun w' h => ⟨h.read hb3 (by omega) hC0, h.read hb3 (by omega) hC1, (h.at hQ hQB).c0, (h.at hQ hQB).c1, h.room.fr 0, h.room.fr 1, h.room.fr 2, h.room.fr 3, h.room.fr 4⟩
                  have HM : Hid (NrAt w n X Y px py k U) := hM
                  clear hM hC0 hC1 hQ f0 f4 hb3
                  go_wp2
                  go_region_held3 (fun w' => But w U (w.heap.size + 1 + 1) 5 w') (with_reducible (repeat (first | exact g0 | refine But.drew ?_ | refine But.set ?_ _ _ | assumption | refine But.bel (by assumption) (by assumption))))
                    (first
                      | (go_at_call 40; refine (l1Distance_any _ _ _ _ _ pa pq).mono ?_; rintro e w' ⟨rfl, hbk⟩; have hrm := (But.bel (w := w) (W := U) (B := w.heap.size + 1 + 1) (m := 5) (by assumption) hbk).room; have HRM : Hid (Room w' (w.heap.size + 1 + 1) 5) := hrm; obtain ⟨r0, hr0⟩ := hrm.there 0 (by decide); obtain ⟨r1, hr1⟩ := hrm.there 1 (by decide); obtain ⟨r2, hr2⟩ := hrm.there 2 (by decide); obtain ⟨r3, hr3⟩ := hrm.there 3 (by decide); obtain ⟨r4, hr4⟩ := hrm.there 4 (by decide); clear hrm))
                  all_goals
                    go_wp2
                    go_roundw
                    case rel =>
                      obtain ⟨n0, n1, n2, n3, n4⟩ := HT.out
                      refine ⟨k + 1, by omega, by go_num, NrAt.step (by assumption) HM.out ?_⟩
                      rw [n0, n1, n2, n3, n4]
                      exact HRM.out.put5 _ _ _ _ _
                    case measure => simp [intOf]; omega
    · obtain rfl : k = n := by omega
      have hl : legs k = k := by unfold legs; split <;> omega
      have HX := hN.r.put5 (nrL k X Y px py k) (nrA k X Y px py k) (nrX k X Y px py k) (nrY k X Y px py k) (nrF k X Y px py k)
      have HB := bel_set5 hN.b (by omega : w.heap.size ≤ w.heap.size + 1) (nrL k X Y px py k) (nrA k X Y px py k) (nrX k X Y px py k) (nrY k X Y px py k) (nrF k X Y px py k)
      have HX : Hid (Five (set5 wr (w.heap.size + 1) (nrL k X Y px py k) (nrA k X Y px py k) (nrX k X Y px py k) (nrY k X Y px py k) (nrF k X Y px py k)) (w.heap.size + 1) (nrL k X Y px py k) (nrA k X Y px py k) (nrX k X Y px py k) (nrY k X Y px py k) (nrF k X Y px py k)) := HX
      obtain ⟨r0, hr0⟩ := hN.r.there 0 (by decide)
      obtain ⟨r1, hr1⟩ := hN.r.there 1 (by decide)
      obtain ⟨r2, hr2⟩ := hN.r.there 2 (by decide)
      obtain ⟨r3, hr3⟩ := hN.r.there 3 (by decide)
      obtain ⟨r4, hr4⟩ := hN.r.there 4 (by decide)
      have q0 := hN.r.fr 0
      have q1 := hN.r.fr 1
      have q2 := hN.r.fr 2
      have q3 := hN.r.fr 3
      have q4 := hN.r.fr 4
      obtain ⟨_, f0, f1, f2, f3, f4, _⟩ := hN.f
      clear hN
      go_wp2
      obtain ⟨_, y0, y1, y2, y3, y4, _⟩ := HX.out
      exact bodyPost_ret (v := nrV k X Y px py k) (by simp [results, Try.results52, go_sem, y0, y1, y2, y3, y4]) rfl ⟨by rw [hl], HB⟩
end Go.Proofs.Ytoeaplcijdlhnaa
