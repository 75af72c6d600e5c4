/-
  Clipping a stretch in the model, at any points of 64 bits: there is an answer, of points.
-/
import Derived.Test.YtkmccjjghpnejaaClpV
import Derived.Test.YtkmccjjghpnejaaClpK
import Derived.Test.YtkmccjjghpnejaaClpN
namespace Go.Proofs.Ytkmccjjghpnejaa
open Go.RowKit

theorem pq_clm {q : BoxD} (h6 : Box64 q) (hx : q.a ≤ q.c) (hy : q.b ≤ q.d) (x y z t : Int) : PqP ⟨clm x q.a q.c, clm y q.b q.d⟩ ∧ PqP ⟨clm z q.a q.c, clm t q.b q.d⟩ := by
 exact ⟨⟨in64_btw h6.a h6.c (clm_bd hx), in64_btw h6.b h6.d (clm_bd hy)⟩, ⟨in64_btw h6.a h6.c (clm_bd hx), in64_btw h6.b h6.d (clm_bd hy)⟩⟩

set_option maxRecDepth 100000 in
set_option maxHeartbeats 8000000 in
theorem l6Stretch_anyw (q : BoxD) (ax ay bx b_y : Int) (w : World) (iax : In64 ax) (iay : In64 ay) (ibx : In64 bx) (iby : In64 b_y) (h6 : Box64 q) (hx0 : q.a ≤ q.c) (hy0 : q.b ≤ q.d) :
  Calls Try.prog 79 #[pt ax ay, pt bx b_y, bxv q] w fun r w' => ∃ px py qx qy ok, r = .returned (.tuple #[pt px py, pt qx qy, .bool ok]) ∧ (ok = true → PqP ⟨px, py⟩ ∧ PqP ⟨qx, qy⟩) ∧ Bel w w' := by
 obtain ⟨W, HW⟩ : ∃ W, Hid (W = ((((((((w.alloc (.cells #[.int .i64 ax, .int .i64 ay] 31)).alloc (.cells #[.int .i64 bx, .int .i64 b_y] 31)).alloc (.cells #[.int .i64 q.a, .int .i64 q.b, .int .i64 q.c, .int .i64 q.d] 33)).alloc (.cells #[.int .i64 0, .int .i64 0] 31)).alloc (.cells #[.int .i64 0, .int .i64 0] 31)).alloc (.cells #[.int .i64 ax, .int .i64 ay] 31)).alloc (.cells #[.int .i64 bx, .int .i64 b_y] 31)).alloc (.cells #[.int .i64 q.a, .int .i64 q.c, .int .i64 q.b, .int .i64 q.d] 2))) := ⟨_, (rfl : ((((((((w.alloc (.cells #[.int .i64 ax, .int .i64 ay] 31)).alloc (.cells #[.int .i64 bx, .int .i64 b_y] 31)).alloc (.cells #[.int .i64 q.a, .int .i64 q.b, .int .i64 q.c, .int .i64 q.d] 33)).alloc (.cells #[.int .i64 0, .int .i64 0] 31)).alloc (.cells #[.int .i64 0, .int .i64 0] 31)).alloc (.cells #[.int .i64 ax, .int .i64 ay] 31)).alloc (.cells #[.int .i64 bx, .int .i64 b_y] 31)).alloc (.cells #[.int .i64 q.a, .int .i64 q.c, .int .i64 q.b, .int .i64 q.d] 2)) = _)⟩
 have K0 : PV w q ax ay bx b_y W ⟨ax, ay, bx, b_y⟩ := by
  rw [HW.out]
  refine ⟨?_, ?_, ?_, ?_, ?_, ?_, ?_, ?_, (bel_alloc (bel_alloc (bel_alloc (bel_alloc (bel_alloc (bel_alloc (bel_alloc (bel_alloc (Bel.refl _) _) _) _) _) _) _) _) _)⟩
  ·have := (Blk.new w [.int .i64 ax, .int .i64 ay] 31).bel (bel_alloc (bel_alloc (bel_alloc (bel_alloc (bel_alloc (bel_alloc (bel_alloc (Bel.refl _) (.cells #[.int .i64 bx, .int .i64 b_y] 31)) (.cells #[.int .i64 q.a, .int .i64 q.b, .int .i64 q.c, .int .i64 q.d] 33)) (.cells #[.int .i64 0, .int .i64 0] 31)) (.cells #[.int .i64 0, .int .i64 0] 31)) (.cells #[.int .i64 ax, .int .i64 ay] 31)) (.cells #[.int .i64 bx, .int .i64 b_y] 31)) (.cells #[.int .i64 q.a, .int .i64 q.c, .int .i64 q.b, .int .i64 q.d] 2))
   exact this
  ·have := (Blk.new (w.alloc (.cells #[.int .i64 ax, .int .i64 ay] 31)) [.int .i64 bx, .int .i64 b_y] 31).bel (bel_alloc (bel_alloc (bel_alloc (bel_alloc (bel_alloc (bel_alloc (Bel.refl _) (.cells #[.int .i64 q.a, .int .i64 q.b, .int .i64 q.c, .int .i64 q.d] 33)) (.cells #[.int .i64 0, .int .i64 0] 31)) (.cells #[.int .i64 0, .int .i64 0] 31)) (.cells #[.int .i64 ax, .int .i64 ay] 31)) (.cells #[.int .i64 bx, .int .i64 b_y] 31)) (.cells #[.int .i64 q.a, .int .i64 q.c, .int .i64 q.b, .int .i64 q.d] 2))
   simp only [World.size_alloc] at this
   exact this
  ·have := (Blk.new ((w.alloc (.cells #[.int .i64 ax, .int .i64 ay] 31)).alloc (.cells #[.int .i64 bx, .int .i64 b_y] 31)) [.int .i64 q.a, .int .i64 q.b, .int .i64 q.c, .int .i64 q.d] 33).bel (bel_alloc (bel_alloc (bel_alloc (bel_alloc (bel_alloc (Bel.refl _) (.cells #[.int .i64 0, .int .i64 0] 31)) (.cells #[.int .i64 0, .int .i64 0] 31)) (.cells #[.int .i64 ax, .int .i64 ay] 31)) (.cells #[.int .i64 bx, .int .i64 b_y] 31)) (.cells #[.int .i64 q.a, .int .i64 q.c, .int .i64 q.b, .int .i64 q.d] 2))
   simp only [World.size_alloc] at this
   exact this
  ·have := (Blk.new (((w.alloc (.cells #[.int .i64 ax, .int .i64 ay] 31)).alloc (.cells #[.int .i64 bx, .int .i64 b_y] 31)).alloc (.cells #[.int .i64 q.a, .int .i64 q.b, .int .i64 q.c, .int .i64 q.d] 33)) [.int .i64 0, .int .i64 0] 31).bel (bel_alloc (bel_alloc (bel_alloc (bel_alloc (Bel.refl _) (.cells #[.int .i64 0, .int .i64 0] 31)) (.cells #[.int .i64 ax, .int .i64 ay] 31)) (.cells #[.int .i64 bx, .int .i64 b_y] 31)) (.cells #[.int .i64 q.a, .int .i64 q.c, .int .i64 q.b, .int .i64 q.d] 2))
   simp only [World.size_alloc] at this
   exact this
  ·have := (Blk.new ((((w.alloc (.cells #[.int .i64 ax, .int .i64 ay] 31)).alloc (.cells #[.int .i64 bx, .int .i64 b_y] 31)).alloc (.cells #[.int .i64 q.a, .int .i64 q.b, .int .i64 q.c, .int .i64 q.d] 33)).alloc (.cells #[.int .i64 0, .int .i64 0] 31)) [.int .i64 0, .int .i64 0] 31).bel (bel_alloc (bel_alloc (bel_alloc (Bel.refl _) (.cells #[.int .i64 ax, .int .i64 ay] 31)) (.cells #[.int .i64 bx, .int .i64 b_y] 31)) (.cells #[.int .i64 q.a, .int .i64 q.c, .int .i64 q.b, .int .i64 q.d] 2))
   simp only [World.size_alloc] at this
   exact this
  ·have := (Blk.new (((((w.alloc (.cells #[.int .i64 ax, .int .i64 ay] 31)).alloc (.cells #[.int .i64 bx, .int .i64 b_y] 31)).alloc (.cells #[.int .i64 q.a, .int .i64 q.b, .int .i64 q.c, .int .i64 q.d] 33)).alloc (.cells #[.int .i64 0, .int .i64 0] 31)).alloc (.cells #[.int .i64 0, .int .i64 0] 31)) [.int .i64 ax, .int .i64 ay] 31).bel (bel_alloc (bel_alloc (Bel.refl _) (.cells #[.int .i64 bx, .int .i64 b_y] 31)) (.cells #[.int .i64 q.a, .int .i64 q.c, .int .i64 q.b, .int .i64 q.d] 2))
   simp only [World.size_alloc] at this
   exact this
  ·have := (Blk.new ((((((w.alloc (.cells #[.int .i64 ax, .int .i64 ay] 31)).alloc (.cells #[.int .i64 bx, .int .i64 b_y] 31)).alloc (.cells #[.int .i64 q.a, .int .i64 q.b, .int .i64 q.c, .int .i64 q.d] 33)).alloc (.cells #[.int .i64 0, .int .i64 0] 31)).alloc (.cells #[.int .i64 0, .int .i64 0] 31)).alloc (.cells #[.int .i64 ax, .int .i64 ay] 31)) [.int .i64 bx, .int .i64 b_y] 31).bel (bel_alloc (Bel.refl _) (.cells #[.int .i64 q.a, .int .i64 q.c, .int .i64 q.b, .int .i64 q.d] 2))
   simp only [World.size_alloc] at this
   exact this
  ·have := (Blk.new (((((((w.alloc (.cells #[.int .i64 ax, .int .i64 ay] 31)).alloc (.cells #[.int .i64 bx, .int .i64 b_y] 31)).alloc (.cells #[.int .i64 q.a, .int .i64 q.b, .int .i64 q.c, .int .i64 q.d] 33)).alloc (.cells #[.int .i64 0, .int .i64 0] 31)).alloc (.cells #[.int .i64 0, .int .i64 0] 31)).alloc (.cells #[.int .i64 ax, .int .i64 ay] 31)).alloc (.cells #[.int .i64 bx, .int .i64 b_y] 31)) [.int .i64 q.a, .int .i64 q.c, .int .i64 q.b, .int .i64 q.d] 2).bel (Bel.refl _)
   simp only [World.size_alloc] at this
   exact this
 have HK0 : Hid (PV w q ax ay bx b_y W ⟨ax, ay, bx, b_y⟩) := K0
 clear K0
 go_enter Try.func79, Try.ntmps79
 go_upto_region 4 with fail
 rw [← HW.out]
 clear HW
 go_wp2
 go_loopw [12, 13, 14, 15, 16] (fun i _ _ _ _ wr => ∃ (j : Nat) (s : StD), j ≤ 4 ∧ i = .int .i64 j ∧ PV w q ax ay bx b_y wr s) (fun i _ _ _ _ _ => 4 - (intOf i).toNat)
 case atStart => exact ⟨0, _, by decide, rfl, HK0.out⟩
 case round =>
  clear HK0
  obtain ⟨j, s, hj, rfl, hK⟩ := hrel
  by_cases hlt : j < 4
  ·rcases (show j = 0 ∨ j = 1 ∨ j = 2 ∨ j = 3 by omega) with hi0 | hi1 | hi2 | hi3
   ·subst hi0
    obtain ⟨P, HP⟩ : ∃ t, Hid (outB 0 q.a s.px s.py = t) := ⟨_, (rfl : outB 0 q.a s.px s.py = _)⟩
    obtain ⟨Q, HQ⟩ : ∃ t, Hid (outB 0 q.a s.qx s.qy = t) := ⟨_, (rfl : outB 0 q.a s.qx s.qy = _)⟩
    have cP : ∀ w', Calls Try.prog 105 #[pt s.px s.py, .int .i64 q.a, .bool false, .bool true] w' fun r w'' => r = .returned (.bool (!P)) ∧ Bel w' w'' := fun w' => by rw [← HP.out]; exact on0 _ _ _ _
    have cQ : ∀ w', Calls Try.prog 105 #[pt s.qx s.qy, .int .i64 q.a, .bool false, .bool true] w' fun r w'' => r = .returned (.bool (!Q)) ∧ Bel w' w'' := fun w' => by rw [← HQ.out]; exact on0 _ _ _ _
    obtain ⟨wo, hwo⟩ : ∃ V, V = wr := ⟨_, rfl⟩
    subst hwo
    have hR : ∀ v, Bel wo v → v.cell? ⟨w.heap.size + 1 + 1 + 1 + 1 + 1, 0, none⟩ = some (.int .i64 s.px) ∧ v.cell? ⟨w.heap.size + 1 + 1 + 1 + 1 + 1, 1, none⟩ = some (.int .i64 s.py) ∧ v.cell? ⟨w.heap.size + 1 + 1 + 1 + 1 + 1 + 1 + 1, 0, none⟩ = some (.int .i64 q.a) := fun v h => ⟨(hK.step h).p.cell 0 (by simp), (hK.step h).p.cell 1 (by simp), (hK.step h).ed.cell 0 (by simp)⟩
    have g0 : Bel wo wo := Bel.refl _
    go_wp2
    go_region_held3 (fun w' => Bel wo w') (with_reducible (repeat (first | exact g0 | refine Bel.drew ?_ | assumption | refine bel_then (by assumption) ?_)))
     (first | (go_at_call 105; with_reducible refine (cP _).mono ?_; rintro r w' ⟨rfl, hbk⟩))
    have hH : Bel wo w' := by assumption
    obtain ⟨w1, hw1⟩ : ∃ V, V = w' := ⟨_, rfl⟩
    subst hw1
    have K1 := hK.step hH
    clear hR g0 cP
    have hR : ∀ v, Bel w1 v → v.cell? ⟨w.heap.size + 1 + 1 + 1 + 1 + 1 + 1, 0, none⟩ = some (.int .i64 s.qx) ∧ v.cell? ⟨w.heap.size + 1 + 1 + 1 + 1 + 1 + 1, 1, none⟩ = some (.int .i64 s.qy) ∧ v.cell? ⟨w.heap.size + 1 + 1 + 1 + 1 + 1 + 1 + 1, 0, none⟩ = some (.int .i64 q.a) := fun v h => ⟨(K1.step h).q'.cell 0 (by simp), (K1.step h).q'.cell 1 (by simp), (K1.step h).ed.cell 0 (by simp)⟩
    have g0 : Bel w1 w1 := Bel.refl _
    go_wp2
    go_region_held3 (fun w' => Bel w1 w') (with_reducible (repeat (first | exact g0 | refine Bel.drew ?_ | assumption | refine bel_then (by assumption) ?_)))
     (first | (go_at_call 105; with_reducible refine (cQ _).mono ?_; rintro r w' ⟨rfl, hbk⟩))
    have hH2 : Bel w1 w' := by assumption
    obtain ⟨w2, hw2⟩ : ∃ V, V = w' := ⟨_, rfl⟩
    subst hw2
    have K2 := K1.step hH2
    have HK2 : Hid (PV w q ax ay bx b_y w2 s) := K2
    clear hR g0 cQ K1
    cases P
    ·cases Q
     ·skip
      clear K2
      go_wp2
      go_roundw
      case rel => exact ⟨0 + 1, s, by omega, by go_num, HK2.out⟩
      case measure => simp [intOf]
     ·skip
      have cC' := fun w' => l6End_levelw s.qx s.qy ax ay bx b_y q.a w' iax ibx
      have gd : Bel w2 w2.drew := Bel.drew (Bel.refl _)
      have HS0 : Hid (∀ v, Bel w2 v → (v.cell? ⟨w.heap.size, 0, none⟩ = some (.int .i64 ax) ∧ v.cell? ⟨w.heap.size, 1, none⟩ = some (.int .i64 ay) ∧ v.cell? ⟨w.heap.size + 1, 0, none⟩ = some (.int .i64 bx) ∧ v.cell? ⟨w.heap.size + 1, 1, none⟩ = some (.int .i64 b_y) ∧ v.cell? ⟨w.heap.size + 1 + 1 + 1 + 1 + 1 + 1 + 1, 0, none⟩ = some (.int .i64 q.a))) := fun v h => ⟨(HK2.out.step h).a.cell 0 (by simp), (HK2.out.step h).a.cell 1 (by simp), (HK2.out.step h).b.cell 0 (by simp), (HK2.out.step h).b.cell 1 (by simp), (HK2.out.step h).ed.cell 0 (by simp)⟩
      have HSs : Hid (∀ (v : World) (o : Nat) (u : Value), (v.cell? ⟨w.heap.size, 0, none⟩ = some (.int .i64 ax) ∧ v.cell? ⟨w.heap.size, 1, none⟩ = some (.int .i64 ay) ∧ v.cell? ⟨w.heap.size + 1, 0, none⟩ = some (.int .i64 bx) ∧ v.cell? ⟨w.heap.size + 1, 1, none⟩ = some (.int .i64 b_y) ∧ v.cell? ⟨w.heap.size + 1 + 1 + 1 + 1 + 1 + 1 + 1, 0, none⟩ = some (.int .i64 q.a)) → ((v.setCell ⟨w.heap.size + 1 + 1 + 1 + 1 + 1 + 1, o, none⟩ u).cell? ⟨w.heap.size, 0, none⟩ = some (.int .i64 ax) ∧ (v.setCell ⟨w.heap.size + 1 + 1 + 1 + 1 + 1 + 1, o, none⟩ u).cell? ⟨w.heap.size, 1, none⟩ = some (.int .i64 ay) ∧ (v.setCell ⟨w.heap.size + 1 + 1 + 1 + 1 + 1 + 1, o, none⟩ u).cell? ⟨w.heap.size + 1, 0, none⟩ = some (.int .i64 bx) ∧ (v.setCell ⟨w.heap.size + 1 + 1 + 1 + 1 + 1 + 1, o, none⟩ u).cell? ⟨w.heap.size + 1, 1, none⟩ = some (.int .i64 b_y) ∧ (v.setCell ⟨w.heap.size + 1 + 1 + 1 + 1 + 1 + 1, o, none⟩ u).cell? ⟨w.heap.size + 1 + 1 + 1 + 1 + 1 + 1 + 1, 0, none⟩ = some (.int .i64 q.a))) := fun v o u h => by
       have e : ∀ k j, k ≠ w.heap.size + 1 + 1 + 1 + 1 + 1 + 1 → (v.setCell ⟨w.heap.size + 1 + 1 + 1 + 1 + 1 + 1, o, none⟩ u).cell? ⟨k, j, none⟩ = v.cell? ⟨k, j, none⟩ := fun k j hk => World.cell?_setCell_other _ _ _ _ (fun e => hk (congrArg Addr.block e).symm)
       rw [e _ _ (by omega), e _ _ (by omega), e _ _ (by omega), e _ _ (by omega), e _ _ (by omega)]; exact h
      have HR : Hid (∀ v, Bel w2 v → v.cell? ⟨w.heap.size + 1 + 1 + 1 + 1 + 1 + 1, 0, none⟩ = some (.int .i64 s.qx) ∧ v.cell? ⟨w.heap.size + 1 + 1 + 1 + 1 + 1 + 1, 1, none⟩ = some (.int .i64 s.qy) ∧ v.frozen? ⟨w.heap.size + 1 + 1 + 1 + 1 + 1 + 1, 0, none⟩ = false ∧ v.frozen? ⟨w.heap.size + 1 + 1 + 1 + 1 + 1 + 1, 1, none⟩ = false) := fun v h => ⟨(HK2.out.step h).q'.cell 0 (by simp), (HK2.out.step h).q'.cell 1 (by simp), (HK2.out.step h).q'.free 0, (HK2.out.step h).q'.free 1⟩
      have hcsd := HR.out _ gd
      clear K2
      go_wp2
      refine wp_region_noPanic ?_
      refine wp_region_held_drew (S := (fun w' => w'.cell? ⟨w.heap.size, 0, none⟩ = some (.int .i64 ax) ∧ w'.cell? ⟨w.heap.size, 1, none⟩ = some (.int .i64 ay) ∧ w'.cell? ⟨w.heap.size + 1, 0, none⟩ = some (.int .i64 bx) ∧ w'.cell? ⟨w.heap.size + 1, 1, none⟩ = some (.int .i64 b_y) ∧ w'.cell? ⟨w.heap.size + 1 + 1 + 1 + 1 + 1 + 1 + 1, 0, none⟩ = some (.int .i64 q.a))) (by kernel_rfl) (HS0.out _ gd) (fun hHeld => ?_)
      refine tk 1 hHeld ?_; refine tk 2 hHeld ?_; refine tk 3 hHeld ?_; refine tk 4 hHeld ?_; refine tk 5 hHeld ?_; refine tk 6 hHeld ?_
      refine tk 7 hHeld ?_
      refine rd1 0 (fun K hK => ?_)
      go_simp
      refine hK.out _ _ (hHeld) ?_; clear hK K hHeld; intro hHeld
      try simp only [Act.put, List.setIfInBounds_toArray, List.set_cons_zero, List.set_cons_succ]
      refine rd1 8 (fun K hK => ?_)
      go_simp
      refine (cC' _).mono ?_
      rintro r w' ⟨cx, cy, rfl, hbk0⟩
      have hbk : Bel w2 w' := bel_step gd hbk0
      clear hcsd
      have hcs := HR.out _ hbk
      clear hbk0
      go_wp2_with fail
      refine hK.out _ _ (HS0.out _ hbk) ?_; clear hK K hHeld; intro hHeld
      try simp only [Act.put, List.setIfInBounds_toArray, List.set_cons_zero, List.set_cons_succ]
      refine rd1 9 (fun K hK => ?_)
      go_simp
      refine hK.out _ _ (HSs.out _ _ _ (HSs.out _ _ _ hHeld)) ?_; clear hK K hHeld; intro hHeld
      try simp only [Act.put, List.setIfInBounds_toArray, List.set_cons_zero, List.set_cons_succ]
      refine wpAnyH_done (by kernel_rfl) ?_ _
      refine NoPanic.normal ?_
      have HK3 : Hid _ := (HK2.out.step hbk).setQ cx cy
      clear hcs hHeld
      go_wp2
      go_roundw
      case rel => exact ⟨0 + 1, _, by omega, by go_num, HK3.out⟩
      case measure => simp [intOf]
    ·cases Q
     ·skip
      have cC' := fun w' => l6End_levelw s.px s.py ax ay bx b_y q.a w' iax ibx
      have gd : Bel w2 w2.drew := Bel.drew (Bel.refl _)
      have HS0 : Hid (∀ v, Bel w2 v → (v.cell? ⟨w.heap.size, 0, none⟩ = some (.int .i64 ax) ∧ v.cell? ⟨w.heap.size, 1, none⟩ = some (.int .i64 ay) ∧ v.cell? ⟨w.heap.size + 1, 0, none⟩ = some (.int .i64 bx) ∧ v.cell? ⟨w.heap.size + 1, 1, none⟩ = some (.int .i64 b_y) ∧ v.cell? ⟨w.heap.size + 1 + 1 + 1 + 1 + 1 + 1 + 1, 0, none⟩ = some (.int .i64 q.a))) := fun v h => ⟨(HK2.out.step h).a.cell 0 (by simp), (HK2.out.step h).a.cell 1 (by simp), (HK2.out.step h).b.cell 0 (by simp), (HK2.out.step h).b.cell 1 (by simp), (HK2.out.step h).ed.cell 0 (by simp)⟩
      have HSs : Hid (∀ (v : World) (o : Nat) (u : Value), (v.cell? ⟨w.heap.size, 0, none⟩ = some (.int .i64 ax) ∧ v.cell? ⟨w.heap.size, 1, none⟩ = some (.int .i64 ay) ∧ v.cell? ⟨w.heap.size + 1, 0, none⟩ = some (.int .i64 bx) ∧ v.cell? ⟨w.heap.size + 1, 1, none⟩ = some (.int .i64 b_y) ∧ v.cell? ⟨w.heap.size + 1 + 1 + 1 + 1 + 1 + 1 + 1, 0, none⟩ = some (.int .i64 q.a)) → ((v.setCell ⟨w.heap.size + 1 + 1 + 1 + 1 + 1, o, none⟩ u).cell? ⟨w.heap.size, 0, none⟩ = some (.int .i64 ax) ∧ (v.setCell ⟨w.heap.size + 1 + 1 + 1 + 1 + 1, o, none⟩ u).cell? ⟨w.heap.size, 1, none⟩ = some (.int .i64 ay) ∧ (v.setCell ⟨w.heap.size + 1 + 1 + 1 + 1 + 1, o, none⟩ u).cell? ⟨w.heap.size + 1, 0, none⟩ = some (.int .i64 bx) ∧ (v.setCell ⟨w.heap.size + 1 + 1 + 1 + 1 + 1, o, none⟩ u).cell? ⟨w.heap.size + 1, 1, none⟩ = some (.int .i64 b_y) ∧ (v.setCell ⟨w.heap.size + 1 + 1 + 1 + 1 + 1, o, none⟩ u).cell? ⟨w.heap.size + 1 + 1 + 1 + 1 + 1 + 1 + 1, 0, none⟩ = some (.int .i64 q.a))) := fun v o u h => by
       have e : ∀ k j, k ≠ w.heap.size + 1 + 1 + 1 + 1 + 1 → (v.setCell ⟨w.heap.size + 1 + 1 + 1 + 1 + 1, o, none⟩ u).cell? ⟨k, j, none⟩ = v.cell? ⟨k, j, none⟩ := fun k j hk => World.cell?_setCell_other _ _ _ _ (fun e => hk (congrArg Addr.block e).symm)
       rw [e _ _ (by omega), e _ _ (by omega), e _ _ (by omega), e _ _ (by omega), e _ _ (by omega)]; exact h
      have HR : Hid (∀ v, Bel w2 v → v.cell? ⟨w.heap.size + 1 + 1 + 1 + 1 + 1, 0, none⟩ = some (.int .i64 s.px) ∧ v.cell? ⟨w.heap.size + 1 + 1 + 1 + 1 + 1, 1, none⟩ = some (.int .i64 s.py) ∧ v.frozen? ⟨w.heap.size + 1 + 1 + 1 + 1 + 1, 0, none⟩ = false ∧ v.frozen? ⟨w.heap.size + 1 + 1 + 1 + 1 + 1, 1, none⟩ = false) := fun v h => ⟨(HK2.out.step h).p.cell 0 (by simp), (HK2.out.step h).p.cell 1 (by simp), (HK2.out.step h).p.free 0, (HK2.out.step h).p.free 1⟩
      have hcsd := HR.out _ gd
      clear K2
      go_wp2
      refine wp_region_noPanic ?_
      refine wp_region_held_drew (S := (fun w' => w'.cell? ⟨w.heap.size, 0, none⟩ = some (.int .i64 ax) ∧ w'.cell? ⟨w.heap.size, 1, none⟩ = some (.int .i64 ay) ∧ w'.cell? ⟨w.heap.size + 1, 0, none⟩ = some (.int .i64 bx) ∧ w'.cell? ⟨w.heap.size + 1, 1, none⟩ = some (.int .i64 b_y) ∧ w'.cell? ⟨w.heap.size + 1 + 1 + 1 + 1 + 1 + 1 + 1, 0, none⟩ = some (.int .i64 q.a))) (by kernel_rfl) (HS0.out _ gd) (fun hHeld => ?_)
      refine tk 1 hHeld ?_; refine tk 2 hHeld ?_; refine tk 3 hHeld ?_; refine tk 4 hHeld ?_; refine tk 5 hHeld ?_; refine tk 6 hHeld ?_
      refine tk 7 hHeld ?_
      refine rd1 0 (fun K hK => ?_)
      go_simp
      refine hK.out _ _ (hHeld) ?_; clear hK K hHeld; intro hHeld
      try simp only [Act.put, List.setIfInBounds_toArray, List.set_cons_zero, List.set_cons_succ]
      refine rd1 8 (fun K hK => ?_)
      go_simp
      refine (cC' _).mono ?_
      rintro r w' ⟨cx, cy, rfl, hbk0⟩
      have hbk : Bel w2 w' := bel_step gd hbk0
      clear hcsd
      have hcs := HR.out _ hbk
      clear hbk0
      go_wp2_with fail
      refine hK.out _ _ (HS0.out _ hbk) ?_; clear hK K hHeld; intro hHeld
      try simp only [Act.put, List.setIfInBounds_toArray, List.set_cons_zero, List.set_cons_succ]
      refine rd1 9 (fun K hK => ?_)
      go_simp
      refine hK.out _ _ (HSs.out _ _ _ (HSs.out _ _ _ hHeld)) ?_; clear hK K hHeld; intro hHeld
      try simp only [Act.put, List.setIfInBounds_toArray, List.set_cons_zero, List.set_cons_succ]
      refine wpAnyH_done (by kernel_rfl) ?_ _
      refine NoPanic.normal ?_
      have HK3 : Hid _ := (HK2.out.step hbk).setP cx cy
      clear hcs hHeld
      go_wp2
      go_roundw
      case rel => exact ⟨0 + 1, _, by omega, by go_num, HK3.out⟩
      case measure => simp [intOf]
     ·skip
      have f0 := K2.r0.free 0
      have f1 := K2.r0.free 1
      have f2 := K2.r1.free 0
      have f3 := K2.r1.free 1
      have z0 := K2.r0.cell 0 (by simp)
      have z1 := K2.r0.cell 1 (by simp)
      have z2 := K2.r1.cell 0 (by simp)
      have z3 := K2.r1.cell 1 (by simp)
      have p0 := K2.p.cell 0 (by simp)
      have p1 := K2.p.cell 1 (by simp)
      have q0 := K2.q'.cell 0 (by simp)
      have q1 := K2.q'.cell 1 (by simp)
      simp only [List.getElem_cons_zero, List.getElem_cons_succ] at z0 z1 z2 z3 p0 p1 q0 q1
      obtain ⟨U, HU⟩ : ∃ U, Hid (U = ((((w2.setCell ⟨w.heap.size + 1 + 1 + 1, 0, none⟩ (.int .i64 s.px)).setCell ⟨w.heap.size + 1 + 1 + 1, 1, none⟩ (.int .i64 s.py)).setCell ⟨w.heap.size + 1 + 1 + 1 + 1, 0, none⟩ (.int .i64 s.qx)).setCell ⟨w.heap.size + 1 + 1 + 1 + 1, 1, none⟩ (.int .i64 s.qy)).drew) := ⟨_, (rfl : ((((w2.setCell ⟨w.heap.size + 1 + 1 + 1, 0, none⟩ (.int .i64 s.px)).setCell ⟨w.heap.size + 1 + 1 + 1, 1, none⟩ (.int .i64 s.py)).setCell ⟨w.heap.size + 1 + 1 + 1 + 1, 0, none⟩ (.int .i64 s.qx)).setCell ⟨w.heap.size + 1 + 1 + 1 + 1, 1, none⟩ (.int .i64 s.qy)).drew = _)⟩
      have Y0 : Blk U (w.heap.size + 1 + 1 + 1) [.int .i64 s.px, .int .i64 s.py] := by rw [HU.out]; exact ((((K2.r0.set 0 _ (by simp)).set 1 _ (by simp)).far (by omega)).far (by omega)).bel (Bel.drew (Bel.refl _))
      have Y1 : Blk U (w.heap.size + 1 + 1 + 1 + 1) [.int .i64 s.qx, .int .i64 s.qy] := by rw [HU.out]; exact ((((K2.r1.far (by omega)).far (by omega)).set 0 _ (by simp)).set 1 _ (by simp)).bel (Bel.drew (Bel.refl _))
      have hBU : Bel w U := by rw [HU.out]; exact Bel.drew (bel_set (bel_set (bel_set (bel_set K2.bel (by show w.heap.size ≤ w.heap.size + 1 + 1 + 1; omega) _) (by show w.heap.size ≤ w.heap.size + 1 + 1 + 1; omega) _) (by show w.heap.size ≤ w.heap.size + 1 + 1 + 1 + 1; omega) _) (by show w.heap.size ≤ w.heap.size + 1 + 1 + 1 + 1; omega) _)
      have u0 := Y0.cell 0 (by simp)
      have u1 := Y0.cell 1 (by simp)
      have u2 := Y1.cell 0 (by simp)
      have u3 := Y1.cell 1 (by simp)
      simp only [List.getElem_cons_zero, List.getElem_cons_succ] at u0 u1 u2 u3
      clear Y0 Y1 K2 HK2
      go_wp2
      go_big_region
      go_wp2
      rw [← HU.out]
      exact bodyPost_ret (v := .tuple #[pt s.px s.py, pt s.qx s.qy, .bool false]) (by simp [results, Try.results79, go_sem, u0, u1, u2, u3]) rfl ⟨_, _, _, _, false, rfl, (fun h => nomatch h), hBU⟩
   ·subst hi1
    obtain ⟨P, HP⟩ : ∃ t, Hid (outB 1 q.c s.px s.py = t) := ⟨_, (rfl : outB 1 q.c s.px s.py = _)⟩
    obtain ⟨Q, HQ⟩ : ∃ t, Hid (outB 1 q.c s.qx s.qy = t) := ⟨_, (rfl : outB 1 q.c s.qx s.qy = _)⟩
    have cP : ∀ w', Calls Try.prog 105 #[pt s.px s.py, .int .i64 q.c, .bool false, .bool false] w' fun r w'' => r = .returned (.bool (!P)) ∧ Bel w' w'' := fun w' => by rw [← HP.out]; exact on1 _ _ _ _
    have cQ : ∀ w', Calls Try.prog 105 #[pt s.qx s.qy, .int .i64 q.c, .bool false, .bool false] w' fun r w'' => r = .returned (.bool (!Q)) ∧ Bel w' w'' := fun w' => by rw [← HQ.out]; exact on1 _ _ _ _
    obtain ⟨wo, hwo⟩ : ∃ V, V = wr := ⟨_, rfl⟩
    subst hwo
    have hR : ∀ v, Bel wo v → v.cell? ⟨w.heap.size + 1 + 1 + 1 + 1 + 1, 0, none⟩ = some (.int .i64 s.px) ∧ v.cell? ⟨w.heap.size + 1 + 1 + 1 + 1 + 1, 1, none⟩ = some (.int .i64 s.py) ∧ v.cell? ⟨w.heap.size + 1 + 1 + 1 + 1 + 1 + 1 + 1, 1, none⟩ = some (.int .i64 q.c) := fun v h => ⟨(hK.step h).p.cell 0 (by simp), (hK.step h).p.cell 1 (by simp), (hK.step h).ed.cell 1 (by simp)⟩
    have g0 : Bel wo wo := Bel.refl _
    go_wp2
    go_region_held3 (fun w' => Bel wo w') (with_reducible (repeat (first | exact g0 | refine Bel.drew ?_ | assumption | refine bel_then (by assumption) ?_)))
     (first | (go_at_call 105; with_reducible refine (cP _).mono ?_; rintro r w' ⟨rfl, hbk⟩))
    have hH : Bel wo w' := by assumption
    obtain ⟨w1, hw1⟩ : ∃ V, V = w' := ⟨_, rfl⟩
    subst hw1
    have K1 := hK.step hH
    clear hR g0 cP
    have hR : ∀ v, Bel w1 v → v.cell? ⟨w.heap.size + 1 + 1 + 1 + 1 + 1 + 1, 0, none⟩ = some (.int .i64 s.qx) ∧ v.cell? ⟨w.heap.size + 1 + 1 + 1 + 1 + 1 + 1, 1, none⟩ = some (.int .i64 s.qy) ∧ v.cell? ⟨w.heap.size + 1 + 1 + 1 + 1 + 1 + 1 + 1, 1, none⟩ = some (.int .i64 q.c) := fun v h => ⟨(K1.step h).q'.cell 0 (by simp), (K1.step h).q'.cell 1 (by simp), (K1.step h).ed.cell 1 (by simp)⟩
    have g0 : Bel w1 w1 := Bel.refl _
    go_wp2
    go_region_held3 (fun w' => Bel w1 w') (with_reducible (repeat (first | exact g0 | refine Bel.drew ?_ | assumption | refine bel_then (by assumption) ?_)))
     (first | (go_at_call 105; with_reducible refine (cQ _).mono ?_; rintro r w' ⟨rfl, hbk⟩))
    have hH2 : Bel w1 w' := by assumption
    obtain ⟨w2, hw2⟩ : ∃ V, V = w' := ⟨_, rfl⟩
    subst hw2
    have K2 := K1.step hH2
    have HK2 : Hid (PV w q ax ay bx b_y w2 s) := K2
    clear hR g0 cQ K1
    cases P
    ·cases Q
     ·skip
      clear K2
      go_wp2
      go_roundw
      case rel => exact ⟨1 + 1, s, by omega, by go_num, HK2.out⟩
      case measure => simp [intOf]
     ·skip
      have cC' := fun w' => l6End_levelw s.qx s.qy ax ay bx b_y q.c w' iax ibx
      have gd : Bel w2 w2.drew := Bel.drew (Bel.refl _)
      have HS0 : Hid (∀ v, Bel w2 v → (v.cell? ⟨w.heap.size, 0, none⟩ = some (.int .i64 ax) ∧ v.cell? ⟨w.heap.size, 1, none⟩ = some (.int .i64 ay) ∧ v.cell? ⟨w.heap.size + 1, 0, none⟩ = some (.int .i64 bx) ∧ v.cell? ⟨w.heap.size + 1, 1, none⟩ = some (.int .i64 b_y) ∧ v.cell? ⟨w.heap.size + 1 + 1 + 1 + 1 + 1 + 1 + 1, 1, none⟩ = some (.int .i64 q.c))) := fun v h => ⟨(HK2.out.step h).a.cell 0 (by simp), (HK2.out.step h).a.cell 1 (by simp), (HK2.out.step h).b.cell 0 (by simp), (HK2.out.step h).b.cell 1 (by simp), (HK2.out.step h).ed.cell 1 (by simp)⟩
      have HSs : Hid (∀ (v : World) (o : Nat) (u : Value), (v.cell? ⟨w.heap.size, 0, none⟩ = some (.int .i64 ax) ∧ v.cell? ⟨w.heap.size, 1, none⟩ = some (.int .i64 ay) ∧ v.cell? ⟨w.heap.size + 1, 0, none⟩ = some (.int .i64 bx) ∧ v.cell? ⟨w.heap.size + 1, 1, none⟩ = some (.int .i64 b_y) ∧ v.cell? ⟨w.heap.size + 1 + 1 + 1 + 1 + 1 + 1 + 1, 1, none⟩ = some (.int .i64 q.c)) → ((v.setCell ⟨w.heap.size + 1 + 1 + 1 + 1 + 1 + 1, o, none⟩ u).cell? ⟨w.heap.size, 0, none⟩ = some (.int .i64 ax) ∧ (v.setCell ⟨w.heap.size + 1 + 1 + 1 + 1 + 1 + 1, o, none⟩ u).cell? ⟨w.heap.size, 1, none⟩ = some (.int .i64 ay) ∧ (v.setCell ⟨w.heap.size + 1 + 1 + 1 + 1 + 1 + 1, o, none⟩ u).cell? ⟨w.heap.size + 1, 0, none⟩ = some (.int .i64 bx) ∧ (v.setCell ⟨w.heap.size + 1 + 1 + 1 + 1 + 1 + 1, o, none⟩ u).cell? ⟨w.heap.size + 1, 1, none⟩ = some (.int .i64 b_y) ∧ (v.setCell ⟨w.heap.size + 1 + 1 + 1 + 1 + 1 + 1, o, none⟩ u).cell? ⟨w.heap.size + 1 + 1 + 1 + 1 + 1 + 1 + 1, 1, none⟩ = some (.int .i64 q.c))) := fun v o u h => by
       have e : ∀ k j, k ≠ w.heap.size + 1 + 1 + 1 + 1 + 1 + 1 → (v.setCell ⟨w.heap.size + 1 + 1 + 1 + 1 + 1 + 1, o, none⟩ u).cell? ⟨k, j, none⟩ = v.cell? ⟨k, j, none⟩ := fun k j hk => World.cell?_setCell_other _ _ _ _ (fun e => hk (congrArg Addr.block e).symm)
       rw [e _ _ (by omega), e _ _ (by omega), e _ _ (by omega), e _ _ (by omega), e _ _ (by omega)]; exact h
      have HR : Hid (∀ v, Bel w2 v → v.cell? ⟨w.heap.size + 1 + 1 + 1 + 1 + 1 + 1, 0, none⟩ = some (.int .i64 s.qx) ∧ v.cell? ⟨w.heap.size + 1 + 1 + 1 + 1 + 1 + 1, 1, none⟩ = some (.int .i64 s.qy) ∧ v.frozen? ⟨w.heap.size + 1 + 1 + 1 + 1 + 1 + 1, 0, none⟩ = false ∧ v.frozen? ⟨w.heap.size + 1 + 1 + 1 + 1 + 1 + 1, 1, none⟩ = false) := fun v h => ⟨(HK2.out.step h).q'.cell 0 (by simp), (HK2.out.step h).q'.cell 1 (by simp), (HK2.out.step h).q'.free 0, (HK2.out.step h).q'.free 1⟩
      have hcsd := HR.out _ gd
      clear K2
      go_wp2
      refine wp_region_noPanic ?_
      refine wp_region_held_drew (S := (fun w' => w'.cell? ⟨w.heap.size, 0, none⟩ = some (.int .i64 ax) ∧ w'.cell? ⟨w.heap.size, 1, none⟩ = some (.int .i64 ay) ∧ w'.cell? ⟨w.heap.size + 1, 0, none⟩ = some (.int .i64 bx) ∧ w'.cell? ⟨w.heap.size + 1, 1, none⟩ = some (.int .i64 b_y) ∧ w'.cell? ⟨w.heap.size + 1 + 1 + 1 + 1 + 1 + 1 + 1, 1, none⟩ = some (.int .i64 q.c))) (by kernel_rfl) (HS0.out _ gd) (fun hHeld => ?_)
      refine tk 1 hHeld ?_; refine tk 2 hHeld ?_; refine tk 3 hHeld ?_; refine tk 4 hHeld ?_; refine tk 5 hHeld ?_; refine tk 6 hHeld ?_
      refine tk 7 hHeld ?_
      refine rd1 0 (fun K hK => ?_)
      go_simp
      refine hK.out _ _ (hHeld) ?_; clear hK K hHeld; intro hHeld
      try simp only [Act.put, List.setIfInBounds_toArray, List.set_cons_zero, List.set_cons_succ]
      refine rd1 8 (fun K hK => ?_)
      go_simp
      refine (cC' _).mono ?_
      rintro r w' ⟨cx, cy, rfl, hbk0⟩
      have hbk : Bel w2 w' := bel_step gd hbk0
      clear hcsd
      have hcs := HR.out _ hbk
      clear hbk0
      go_wp2_with fail
      refine hK.out _ _ (HS0.out _ hbk) ?_; clear hK K hHeld; intro hHeld
      try simp only [Act.put, List.setIfInBounds_toArray, List.set_cons_zero, List.set_cons_succ]
      refine rd1 9 (fun K hK => ?_)
      go_simp
      refine hK.out _ _ (HSs.out _ _ _ (HSs.out _ _ _ hHeld)) ?_; clear hK K hHeld; intro hHeld
      try simp only [Act.put, List.setIfInBounds_toArray, List.set_cons_zero, List.set_cons_succ]
      refine wpAnyH_done (by kernel_rfl) ?_ _
      refine NoPanic.normal ?_
      have HK3 : Hid _ := (HK2.out.step hbk).setQ cx cy
      clear hcs hHeld
      go_wp2
      go_roundw
      case rel => exact ⟨1 + 1, _, by omega, by go_num, HK3.out⟩
      case measure => simp [intOf]
    ·cases Q
     ·skip
      have cC' := fun w' => l6End_levelw s.px s.py ax ay bx b_y q.c w' iax ibx
      have gd : Bel w2 w2.drew := Bel.drew (Bel.refl _)
      have HS0 : Hid (∀ v, Bel w2 v → (v.cell? ⟨w.heap.size, 0, none⟩ = some (.int .i64 ax) ∧ v.cell? ⟨w.heap.size, 1, none⟩ = some (.int .i64 ay) ∧ v.cell? ⟨w.heap.size + 1, 0, none⟩ = some (.int .i64 bx) ∧ v.cell? ⟨w.heap.size + 1, 1, none⟩ = some (.int .i64 b_y) ∧ v.cell? ⟨w.heap.size + 1 + 1 + 1 + 1 + 1 + 1 + 1, 1, none⟩ = some (.int .i64 q.c))) := fun v h => ⟨(HK2.out.step h).a.cell 0 (by simp), (HK2.out.step h).a.cell 1 (by simp), (HK2.out.step h).b.cell 0 (by simp), (HK2.out.step h).b.cell 1 (by simp), (HK2.out.step h).ed.cell 1 (by simp)⟩
      have HSs : Hid (∀ (v : World) (o : Nat) (u : Value), (v.cell? ⟨w.heap.size, 0, none⟩ = some (.int .i64 ax) ∧ v.cell? ⟨w.heap.size, 1, none⟩ = some (.int .i64 ay) ∧ v.cell? ⟨w.heap.size + 1, 0, none⟩ = some (.int .i64 bx) ∧ v.cell? ⟨w.heap.size + 1, 1, none⟩ = some (.int .i64 b_y) ∧ v.cell? ⟨w.heap.size + 1 + 1 + 1 + 1 + 1 + 1 + 1, 1, none⟩ = some (.int .i64 q.c)) → ((v.setCell ⟨w.heap.size + 1 + 1 + 1 + 1 + 1, o, none⟩ u).cell? ⟨w.heap.size, 0, none⟩ = some (.int .i64 ax) ∧ (v.setCell ⟨w.heap.size + 1 + 1 + 1 + 1 + 1, o, none⟩ u).cell? ⟨w.heap.size, 1, none⟩ = some (.int .i64 ay) ∧ (v.setCell ⟨w.heap.size + 1 + 1 + 1 + 1 + 1, o, none⟩ u).cell? ⟨w.heap.size + 1, 0, none⟩ = some (.int .i64 bx) ∧ (v.setCell ⟨w.heap.size + 1 + 1 + 1 + 1 + 1, o, none⟩ u).cell? ⟨w.heap.size + 1, 1, none⟩ = some (.int .i64 b_y) ∧ (v.setCell ⟨w.heap.size + 1 + 1 + 1 + 1 + 1, o, none⟩ u).cell? ⟨w.heap.size + 1 + 1 + 1 + 1 + 1 + 1 + 1, 1, none⟩ = some (.int .i64 q.c))) := fun v o u h => by
       have e : ∀ k j, k ≠ w.heap.size + 1 + 1 + 1 + 1 + 1 → (v.setCell ⟨w.heap.size + 1 + 1 + 1 + 1 + 1, o, none⟩ u).cell? ⟨k, j, none⟩ = v.cell? ⟨k, j, none⟩ := fun k j hk => World.cell?_setCell_other _ _ _ _ (fun e => hk (congrArg Addr.block e).symm)
       rw [e _ _ (by omega), e _ _ (by omega), e _ _ (by omega), e _ _ (by omega), e _ _ (by omega)]; exact h
      have HR : Hid (∀ v, Bel w2 v → v.cell? ⟨w.heap.size + 1 + 1 + 1 + 1 + 1, 0, none⟩ = some (.int .i64 s.px) ∧ v.cell? ⟨w.heap.size + 1 + 1 + 1 + 1 + 1, 1, none⟩ = some (.int .i64 s.py) ∧ v.frozen? ⟨w.heap.size + 1 + 1 + 1 + 1 + 1, 0, none⟩ = false ∧ v.frozen? ⟨w.heap.size + 1 + 1 + 1 + 1 + 1, 1, none⟩ = false) := fun v h => ⟨(HK2.out.step h).p.cell 0 (by simp), (HK2.out.step h).p.cell 1 (by simp), (HK2.out.step h).p.free 0, (HK2.out.step h).p.free 1⟩
      have hcsd := HR.out _ gd
      clear K2
      go_wp2
      refine wp_region_noPanic ?_
      refine wp_region_held_drew (S := (fun w' => w'.cell? ⟨w.heap.size, 0, none⟩ = some (.int .i64 ax) ∧ w'.cell? ⟨w.heap.size, 1, none⟩ = some (.int .i64 ay) ∧ w'.cell? ⟨w.heap.size + 1, 0, none⟩ = some (.int .i64 bx) ∧ w'.cell? ⟨w.heap.size + 1, 1, none⟩ = some (.int .i64 b_y) ∧ w'.cell? ⟨w.heap.size + 1 + 1 + 1 + 1 + 1 + 1 + 1, 1, none⟩ = some (.int .i64 q.c))) (by kernel_rfl) (HS0.out _ gd) (fun hHeld => ?_)
      refine tk 1 hHeld ?_; refine tk 2 hHeld ?_; refine tk 3 hHeld ?_; refine tk 4 hHeld ?_; refine tk 5 hHeld ?_; refine tk 6 hHeld ?_
      refine tk 7 hHeld ?_
      refine rd1 0 (fun K hK => ?_)
      go_simp
      refine hK.out _ _ (hHeld) ?_; clear hK K hHeld; intro hHeld
      try simp only [Act.put, List.setIfInBounds_toArray, List.set_cons_zero, List.set_cons_succ]
      refine rd1 8 (fun K hK => ?_)
      go_simp
      refine (cC' _).mono ?_
      rintro r w' ⟨cx, cy, rfl, hbk0⟩
      have hbk : Bel w2 w' := bel_step gd hbk0
      clear hcsd
      have hcs := HR.out _ hbk
      clear hbk0
      go_wp2_with fail
      refine hK.out _ _ (HS0.out _ hbk) ?_; clear hK K hHeld; intro hHeld
      try simp only [Act.put, List.setIfInBounds_toArray, List.set_cons_zero, List.set_cons_succ]
      refine rd1 9 (fun K hK => ?_)
      go_simp
      refine hK.out _ _ (HSs.out _ _ _ (HSs.out _ _ _ hHeld)) ?_; clear hK K hHeld; intro hHeld
      try simp only [Act.put, List.setIfInBounds_toArray, List.set_cons_zero, List.set_cons_succ]
      refine wpAnyH_done (by kernel_rfl) ?_ _
      refine NoPanic.normal ?_
      have HK3 : Hid _ := (HK2.out.step hbk).setP cx cy
      clear hcs hHeld
      go_wp2
      go_roundw
      case rel => exact ⟨1 + 1, _, by omega, by go_num, HK3.out⟩
      case measure => simp [intOf]
     ·skip
      have f0 := K2.r0.free 0
      have f1 := K2.r0.free 1
      have f2 := K2.r1.free 0
      have f3 := K2.r1.free 1
      have z0 := K2.r0.cell 0 (by simp)
      have z1 := K2.r0.cell 1 (by simp)
      have z2 := K2.r1.cell 0 (by simp)
      have z3 := K2.r1.cell 1 (by simp)
      have p0 := K2.p.cell 0 (by simp)
      have p1 := K2.p.cell 1 (by simp)
      have q0 := K2.q'.cell 0 (by simp)
      have q1 := K2.q'.cell 1 (by simp)
      simp only [List.getElem_cons_zero, List.getElem_cons_succ] at z0 z1 z2 z3 p0 p1 q0 q1
      obtain ⟨U, HU⟩ : ∃ U, Hid (U = ((((w2.setCell ⟨w.heap.size + 1 + 1 + 1, 0, none⟩ (.int .i64 s.px)).setCell ⟨w.heap.size + 1 + 1 + 1, 1, none⟩ (.int .i64 s.py)).setCell ⟨w.heap.size + 1 + 1 + 1 + 1, 0, none⟩ (.int .i64 s.qx)).setCell ⟨w.heap.size + 1 + 1 + 1 + 1, 1, none⟩ (.int .i64 s.qy)).drew) := ⟨_, (rfl : ((((w2.setCell ⟨w.heap.size + 1 + 1 + 1, 0, none⟩ (.int .i64 s.px)).setCell ⟨w.heap.size + 1 + 1 + 1, 1, none⟩ (.int .i64 s.py)).setCell ⟨w.heap.size + 1 + 1 + 1 + 1, 0, none⟩ (.int .i64 s.qx)).setCell ⟨w.heap.size + 1 + 1 + 1 + 1, 1, none⟩ (.int .i64 s.qy)).drew = _)⟩
      have Y0 : Blk U (w.heap.size + 1 + 1 + 1) [.int .i64 s.px, .int .i64 s.py] := by rw [HU.out]; exact ((((K2.r0.set 0 _ (by simp)).set 1 _ (by simp)).far (by omega)).far (by omega)).bel (Bel.drew (Bel.refl _))
      have Y1 : Blk U (w.heap.size + 1 + 1 + 1 + 1) [.int .i64 s.qx, .int .i64 s.qy] := by rw [HU.out]; exact ((((K2.r1.far (by omega)).far (by omega)).set 0 _ (by simp)).set 1 _ (by simp)).bel (Bel.drew (Bel.refl _))
      have hBU : Bel w U := by rw [HU.out]; exact Bel.drew (bel_set (bel_set (bel_set (bel_set K2.bel (by show w.heap.size ≤ w.heap.size + 1 + 1 + 1; omega) _) (by show w.heap.size ≤ w.heap.size + 1 + 1 + 1; omega) _) (by show w.heap.size ≤ w.heap.size + 1 + 1 + 1 + 1; omega) _) (by show w.heap.size ≤ w.heap.size + 1 + 1 + 1 + 1; omega) _)
      have u0 := Y0.cell 0 (by simp)
      have u1 := Y0.cell 1 (by simp)
      have u2 := Y1.cell 0 (by simp)
      have u3 := Y1.cell 1 (by simp)
      simp only [List.getElem_cons_zero, List.getElem_cons_succ] at u0 u1 u2 u3
      clear Y0 Y1 K2 HK2
      go_wp2
      go_big_region
      go_wp2
      rw [← HU.out]
      exact bodyPost_ret (v := .tuple #[pt s.px s.py, pt s.qx s.qy, .bool false]) (by simp [results, Try.results79, go_sem, u0, u1, u2, u3]) rfl ⟨_, _, _, _, false, rfl, (fun h => nomatch h), hBU⟩
   ·subst hi2
    obtain ⟨P, HP⟩ : ∃ t, Hid (outB 2 q.b s.px s.py = t) := ⟨_, (rfl : outB 2 q.b s.px s.py = _)⟩
    obtain ⟨Q, HQ⟩ : ∃ t, Hid (outB 2 q.b s.qx s.qy = t) := ⟨_, (rfl : outB 2 q.b s.qx s.qy = _)⟩
    have cP : ∀ w', Calls Try.prog 105 #[pt s.px s.py, .int .i64 q.b, .bool true, .bool true] w' fun r w'' => r = .returned (.bool (!P)) ∧ Bel w' w'' := fun w' => by rw [← HP.out]; exact on2 _ _ _ _
    have cQ : ∀ w', Calls Try.prog 105 #[pt s.qx s.qy, .int .i64 q.b, .bool true, .bool true] w' fun r w'' => r = .returned (.bool (!Q)) ∧ Bel w' w'' := fun w' => by rw [← HQ.out]; exact on2 _ _ _ _
    obtain ⟨wo, hwo⟩ : ∃ V, V = wr := ⟨_, rfl⟩
    subst hwo
    have hR : ∀ v, Bel wo v → v.cell? ⟨w.heap.size + 1 + 1 + 1 + 1 + 1, 0, none⟩ = some (.int .i64 s.px) ∧ v.cell? ⟨w.heap.size + 1 + 1 + 1 + 1 + 1, 1, none⟩ = some (.int .i64 s.py) ∧ v.cell? ⟨w.heap.size + 1 + 1 + 1 + 1 + 1 + 1 + 1, 2, none⟩ = some (.int .i64 q.b) := fun v h => ⟨(hK.step h).p.cell 0 (by simp), (hK.step h).p.cell 1 (by simp), (hK.step h).ed.cell 2 (by simp)⟩
    have g0 : Bel wo wo := Bel.refl _
    go_wp2
    go_region_held3 (fun w' => Bel wo w') (with_reducible (repeat (first | exact g0 | refine Bel.drew ?_ | assumption | refine bel_then (by assumption) ?_)))
     (first | (go_at_call 105; with_reducible refine (cP _).mono ?_; rintro r w' ⟨rfl, hbk⟩))
    have hH : Bel wo w' := by assumption
    obtain ⟨w1, hw1⟩ : ∃ V, V = w' := ⟨_, rfl⟩
    subst hw1
    have K1 := hK.step hH
    clear hR g0 cP
    have hR : ∀ v, Bel w1 v → v.cell? ⟨w.heap.size + 1 + 1 + 1 + 1 + 1 + 1, 0, none⟩ = some (.int .i64 s.qx) ∧ v.cell? ⟨w.heap.size + 1 + 1 + 1 + 1 + 1 + 1, 1, none⟩ = some (.int .i64 s.qy) ∧ v.cell? ⟨w.heap.size + 1 + 1 + 1 + 1 + 1 + 1 + 1, 2, none⟩ = some (.int .i64 q.b) := fun v h => ⟨(K1.step h).q'.cell 0 (by simp), (K1.step h).q'.cell 1 (by simp), (K1.step h).ed.cell 2 (by simp)⟩
    have g0 : Bel w1 w1 := Bel.refl _
    go_wp2
    go_region_held3 (fun w' => Bel w1 w') (with_reducible (repeat (first | exact g0 | refine Bel.drew ?_ | assumption | refine bel_then (by assumption) ?_)))
     (first | (go_at_call 105; with_reducible refine (cQ _).mono ?_; rintro r w' ⟨rfl, hbk⟩))
    have hH2 : Bel w1 w' := by assumption
    obtain ⟨w2, hw2⟩ : ∃ V, V = w' := ⟨_, rfl⟩
    subst hw2
    have K2 := K1.step hH2
    have HK2 : Hid (PV w q ax ay bx b_y w2 s) := K2
    clear hR g0 cQ K1
    cases P
    ·cases Q
     ·skip
      clear K2
      go_wp2
      go_roundw
      case rel => exact ⟨2 + 1, s, by omega, by go_num, HK2.out⟩
      case measure => simp [intOf]
     ·skip
      have cC' := fun w' => l6End_acrossw s.qx s.qy ax ay bx b_y q.b w' iay iby
      have gd : Bel w2 w2.drew := Bel.drew (Bel.refl _)
      have HS0 : Hid (∀ v, Bel w2 v → (v.cell? ⟨w.heap.size, 0, none⟩ = some (.int .i64 ax) ∧ v.cell? ⟨w.heap.size, 1, none⟩ = some (.int .i64 ay) ∧ v.cell? ⟨w.heap.size + 1, 0, none⟩ = some (.int .i64 bx) ∧ v.cell? ⟨w.heap.size + 1, 1, none⟩ = some (.int .i64 b_y) ∧ v.cell? ⟨w.heap.size + 1 + 1 + 1 + 1 + 1 + 1 + 1, 2, none⟩ = some (.int .i64 q.b))) := fun v h => ⟨(HK2.out.step h).a.cell 0 (by simp), (HK2.out.step h).a.cell 1 (by simp), (HK2.out.step h).b.cell 0 (by simp), (HK2.out.step h).b.cell 1 (by simp), (HK2.out.step h).ed.cell 2 (by simp)⟩
      have HSs : Hid (∀ (v : World) (o : Nat) (u : Value), (v.cell? ⟨w.heap.size, 0, none⟩ = some (.int .i64 ax) ∧ v.cell? ⟨w.heap.size, 1, none⟩ = some (.int .i64 ay) ∧ v.cell? ⟨w.heap.size + 1, 0, none⟩ = some (.int .i64 bx) ∧ v.cell? ⟨w.heap.size + 1, 1, none⟩ = some (.int .i64 b_y) ∧ v.cell? ⟨w.heap.size + 1 + 1 + 1 + 1 + 1 + 1 + 1, 2, none⟩ = some (.int .i64 q.b)) → ((v.setCell ⟨w.heap.size + 1 + 1 + 1 + 1 + 1 + 1, o, none⟩ u).cell? ⟨w.heap.size, 0, none⟩ = some (.int .i64 ax) ∧ (v.setCell ⟨w.heap.size + 1 + 1 + 1 + 1 + 1 + 1, o, none⟩ u).cell? ⟨w.heap.size, 1, none⟩ = some (.int .i64 ay) ∧ (v.setCell ⟨w.heap.size + 1 + 1 + 1 + 1 + 1 + 1, o, none⟩ u).cell? ⟨w.heap.size + 1, 0, none⟩ = some (.int .i64 bx) ∧ (v.setCell ⟨w.heap.size + 1 + 1 + 1 + 1 + 1 + 1, o, none⟩ u).cell? ⟨w.heap.size + 1, 1, none⟩ = some (.int .i64 b_y) ∧ (v.setCell ⟨w.heap.size + 1 + 1 + 1 + 1 + 1 + 1, o, none⟩ u).cell? ⟨w.heap.size + 1 + 1 + 1 + 1 + 1 + 1 + 1, 2, none⟩ = some (.int .i64 q.b))) := fun v o u h => by
       have e : ∀ k j, k ≠ w.heap.size + 1 + 1 + 1 + 1 + 1 + 1 → (v.setCell ⟨w.heap.size + 1 + 1 + 1 + 1 + 1 + 1, o, none⟩ u).cell? ⟨k, j, none⟩ = v.cell? ⟨k, j, none⟩ := fun k j hk => World.cell?_setCell_other _ _ _ _ (fun e => hk (congrArg Addr.block e).symm)
       rw [e _ _ (by omega), e _ _ (by omega), e _ _ (by omega), e _ _ (by omega), e _ _ (by omega)]; exact h
      have HR : Hid (∀ v, Bel w2 v → v.cell? ⟨w.heap.size + 1 + 1 + 1 + 1 + 1 + 1, 0, none⟩ = some (.int .i64 s.qx) ∧ v.cell? ⟨w.heap.size + 1 + 1 + 1 + 1 + 1 + 1, 1, none⟩ = some (.int .i64 s.qy) ∧ v.frozen? ⟨w.heap.size + 1 + 1 + 1 + 1 + 1 + 1, 0, none⟩ = false ∧ v.frozen? ⟨w.heap.size + 1 + 1 + 1 + 1 + 1 + 1, 1, none⟩ = false) := fun v h => ⟨(HK2.out.step h).q'.cell 0 (by simp), (HK2.out.step h).q'.cell 1 (by simp), (HK2.out.step h).q'.free 0, (HK2.out.step h).q'.free 1⟩
      have hcsd := HR.out _ gd
      clear K2
      go_wp2
      refine wp_region_noPanic ?_
      refine wp_region_held_drew (S := (fun w' => w'.cell? ⟨w.heap.size, 0, none⟩ = some (.int .i64 ax) ∧ w'.cell? ⟨w.heap.size, 1, none⟩ = some (.int .i64 ay) ∧ w'.cell? ⟨w.heap.size + 1, 0, none⟩ = some (.int .i64 bx) ∧ w'.cell? ⟨w.heap.size + 1, 1, none⟩ = some (.int .i64 b_y) ∧ w'.cell? ⟨w.heap.size + 1 + 1 + 1 + 1 + 1 + 1 + 1, 2, none⟩ = some (.int .i64 q.b))) (by kernel_rfl) (HS0.out _ gd) (fun hHeld => ?_)
      refine tk 1 hHeld ?_; refine tk 2 hHeld ?_; refine tk 3 hHeld ?_; refine tk 4 hHeld ?_; refine tk 5 hHeld ?_; refine tk 6 hHeld ?_
      refine tk 7 hHeld ?_
      refine rd1 0 (fun K hK => ?_)
      go_simp
      refine hK.out _ _ (hHeld) ?_; clear hK K hHeld; intro hHeld
      try simp only [Act.put, List.setIfInBounds_toArray, List.set_cons_zero, List.set_cons_succ]
      refine rd1 8 (fun K hK => ?_)
      go_simp
      refine (cC' _).mono ?_
      rintro r w' ⟨cx, cy, rfl, hbk0⟩
      have hbk : Bel w2 w' := bel_step gd hbk0
      clear hcsd
      have hcs := HR.out _ hbk
      clear hbk0
      go_wp2_with fail
      refine hK.out _ _ (HS0.out _ hbk) ?_; clear hK K hHeld; intro hHeld
      try simp only [Act.put, List.setIfInBounds_toArray, List.set_cons_zero, List.set_cons_succ]
      refine rd1 9 (fun K hK => ?_)
      go_simp
      refine hK.out _ _ (HSs.out _ _ _ (HSs.out _ _ _ hHeld)) ?_; clear hK K hHeld; intro hHeld
      try simp only [Act.put, List.setIfInBounds_toArray, List.set_cons_zero, List.set_cons_succ]
      refine wpAnyH_done (by kernel_rfl) ?_ _
      refine NoPanic.normal ?_
      have HK3 : Hid _ := (HK2.out.step hbk).setQ cx cy
      clear hcs hHeld
      go_wp2
      go_roundw
      case rel => exact ⟨2 + 1, _, by omega, by go_num, HK3.out⟩
      case measure => simp [intOf]
    ·cases Q
     ·skip
      have cC' := fun w' => l6End_acrossw s.px s.py ax ay bx b_y q.b w' iay iby
      have gd : Bel w2 w2.drew := Bel.drew (Bel.refl _)
      have HS0 : Hid (∀ v, Bel w2 v → (v.cell? ⟨w.heap.size, 0, none⟩ = some (.int .i64 ax) ∧ v.cell? ⟨w.heap.size, 1, none⟩ = some (.int .i64 ay) ∧ v.cell? ⟨w.heap.size + 1, 0, none⟩ = some (.int .i64 bx) ∧ v.cell? ⟨w.heap.size + 1, 1, none⟩ = some (.int .i64 b_y) ∧ v.cell? ⟨w.heap.size + 1 + 1 + 1 + 1 + 1 + 1 + 1, 2, none⟩ = some (.int .i64 q.b))) := fun v h => ⟨(HK2.out.step h).a.cell 0 (by simp), (HK2.out.step h).a.cell 1 (by simp), (HK2.out.step h).b.cell 0 (by simp), (HK2.out.step h).b.cell 1 (by simp), (HK2.out.step h).ed.cell 2 (by simp)⟩
      have HSs : Hid (∀ (v : World) (o : Nat) (u : Value), (v.cell? ⟨w.heap.size, 0, none⟩ = some (.int .i64 ax) ∧ v.cell? ⟨w.heap.size, 1, none⟩ = some (.int .i64 ay) ∧ v.cell? ⟨w.heap.size + 1, 0, none⟩ = some (.int .i64 bx) ∧ v.cell? ⟨w.heap.size + 1, 1, none⟩ = some (.int .i64 b_y) ∧ v.cell? ⟨w.heap.size + 1 + 1 + 1 + 1 + 1 + 1 + 1, 2, none⟩ = some (.int .i64 q.b)) → ((v.setCell ⟨w.heap.size + 1 + 1 + 1 + 1 + 1, o, none⟩ u).cell? ⟨w.heap.size, 0, none⟩ = some (.int .i64 ax) ∧ (v.setCell ⟨w.heap.size + 1 + 1 + 1 + 1 + 1, o, none⟩ u).cell? ⟨w.heap.size, 1, none⟩ = some (.int .i64 ay) ∧ (v.setCell ⟨w.heap.size + 1 + 1 + 1 + 1 + 1, o, none⟩ u).cell? ⟨w.heap.size + 1, 0, none⟩ = some (.int .i64 bx) ∧ (v.setCell ⟨w.heap.size + 1 + 1 + 1 + 1 + 1, o, none⟩ u).cell? ⟨w.heap.size + 1, 1, none⟩ = some (.int .i64 b_y) ∧ (v.setCell ⟨w.heap.size + 1 + 1 + 1 + 1 + 1, o, none⟩ u).cell? ⟨w.heap.size + 1 + 1 + 1 + 1 + 1 + 1 + 1, 2, none⟩ = some (.int .i64 q.b))) := fun v o u h => by
       have e : ∀ k j, k ≠ w.heap.size + 1 + 1 + 1 + 1 + 1 → (v.setCell ⟨w.heap.size + 1 + 1 + 1 + 1 + 1, o, none⟩ u).cell? ⟨k, j, none⟩ = v.cell? ⟨k, j, none⟩ := fun k j hk => World.cell?_setCell_other _ _ _ _ (fun e => hk (congrArg Addr.block e).symm)
       rw [e _ _ (by omega), e _ _ (by omega), e _ _ (by omega), e _ _ (by omega), e _ _ (by omega)]; exact h
      have HR : Hid (∀ v, Bel w2 v → v.cell? ⟨w.heap.size + 1 + 1 + 1 + 1 + 1, 0, none⟩ = some (.int .i64 s.px) ∧ v.cell? ⟨w.heap.size + 1 + 1 + 1 + 1 + 1, 1, none⟩ = some (.int .i64 s.py) ∧ v.frozen? ⟨w.heap.size + 1 + 1 + 1 + 1 + 1, 0, none⟩ = false ∧ v.frozen? ⟨w.heap.size + 1 + 1 + 1 + 1 + 1, 1, none⟩ = false) := fun v h => ⟨(HK2.out.step h).p.cell 0 (by simp), (HK2.out.step h).p.cell 1 (by simp), (HK2.out.step h).p.free 0, (HK2.out.step h).p.free 1⟩
      have hcsd := HR.out _ gd
      clear K2
      go_wp2
      refine wp_region_noPanic ?_
      refine wp_region_held_drew (S := (fun w' => w'.cell? ⟨w.heap.size, 0, none⟩ = some (.int .i64 ax) ∧ w'.cell? ⟨w.heap.size, 1, none⟩ = some (.int .i64 ay) ∧ w'.cell? ⟨w.heap.size + 1, 0, none⟩ = some (.int .i64 bx) ∧ w'.cell? ⟨w.heap.size + 1, 1, none⟩ = some (.int .i64 b_y) ∧ w'.cell? ⟨w.heap.size + 1 + 1 + 1 + 1 + 1 + 1 + 1, 2, none⟩ = some (.int .i64 q.b))) (by kernel_rfl) (HS0.out _ gd) (fun hHeld => ?_)
      refine tk 1 hHeld ?_; refine tk 2 hHeld ?_; refine tk 3 hHeld ?_; refine tk 4 hHeld ?_; refine tk 5 hHeld ?_; refine tk 6 hHeld ?_
      refine tk 7 hHeld ?_
      refine rd1 0 (fun K hK => ?_)
      go_simp
      refine hK.out _ _ (hHeld) ?_; clear hK K hHeld; intro hHeld
      try simp only [Act.put, List.setIfInBounds_toArray, List.set_cons_zero, List.set_cons_succ]
      refine rd1 8 (fun K hK => ?_)
      go_simp
      refine (cC' _).mono ?_
      rintro r w' ⟨cx, cy, rfl, hbk0⟩
      have hbk : Bel w2 w' := bel_step gd hbk0
      clear hcsd
      have hcs := HR.out _ hbk
      clear hbk0
      go_wp2_with fail
      refine hK.out _ _ (HS0.out _ hbk) ?_; clear hK K hHeld; intro hHeld
      try simp only [Act.put, List.setIfInBounds_toArray, List.set_cons_zero, List.set_cons_succ]
      refine rd1 9 (fun K hK => ?_)
      go_simp
      refine hK.out _ _ (HSs.out _ _ _ (HSs.out _ _ _ hHeld)) ?_; clear hK K hHeld; intro hHeld
      try simp only [Act.put, List.setIfInBounds_toArray, List.set_cons_zero, List.set_cons_succ]
      refine wpAnyH_done (by kernel_rfl) ?_ _
      refine NoPanic.normal ?_
      have HK3 : Hid _ := (HK2.out.step hbk).setP cx cy
      clear hcs hHeld
      go_wp2
      go_roundw
      case rel => exact ⟨2 + 1, _, by omega, by go_num, HK3.out⟩
      case measure => simp [intOf]
     ·skip
      have f0 := K2.r0.free 0
      have f1 := K2.r0.free 1
      have f2 := K2.r1.free 0
      have f3 := K2.r1.free 1
      have z0 := K2.r0.cell 0 (by simp)
      have z1 := K2.r0.cell 1 (by simp)
      have z2 := K2.r1.cell 0 (by simp)
      have z3 := K2.r1.cell 1 (by simp)
      have p0 := K2.p.cell 0 (by simp)
      have p1 := K2.p.cell 1 (by simp)
      have q0 := K2.q'.cell 0 (by simp)
      have q1 := K2.q'.cell 1 (by simp)
      simp only [List.getElem_cons_zero, List.getElem_cons_succ] at z0 z1 z2 z3 p0 p1 q0 q1
      obtain ⟨U, HU⟩ : ∃ U, Hid (U = ((((w2.setCell ⟨w.heap.size + 1 + 1 + 1, 0, none⟩ (.int .i64 s.px)).setCell ⟨w.heap.size + 1 + 1 + 1, 1, none⟩ (.int .i64 s.py)).setCell ⟨w.heap.size + 1 + 1 + 1 + 1, 0, none⟩ (.int .i64 s.qx)).setCell ⟨w.heap.size + 1 + 1 + 1 + 1, 1, none⟩ (.int .i64 s.qy)).drew) := ⟨_, (rfl : ((((w2.setCell ⟨w.heap.size + 1 + 1 + 1, 0, none⟩ (.int .i64 s.px)).setCell ⟨w.heap.size + 1 + 1 + 1, 1, none⟩ (.int .i64 s.py)).setCell ⟨w.heap.size + 1 + 1 + 1 + 1, 0, none⟩ (.int .i64 s.qx)).setCell ⟨w.heap.size + 1 + 1 + 1 + 1, 1, none⟩ (.int .i64 s.qy)).drew = _)⟩
      have Y0 : Blk U (w.heap.size + 1 + 1 + 1) [.int .i64 s.px, .int .i64 s.py] := by rw [HU.out]; exact ((((K2.r0.set 0 _ (by simp)).set 1 _ (by simp)).far (by omega)).far (by omega)).bel (Bel.drew (Bel.refl _))
      have Y1 : Blk U (w.heap.size + 1 + 1 + 1 + 1) [.int .i64 s.qx, .int .i64 s.qy] := by rw [HU.out]; exact ((((K2.r1.far (by omega)).far (by omega)).set 0 _ (by simp)).set 1 _ (by simp)).bel (Bel.drew (Bel.refl _))
      have hBU : Bel w U := by rw [HU.out]; exact Bel.drew (bel_set (bel_set (bel_set (bel_set K2.bel (by show w.heap.size ≤ w.heap.size + 1 + 1 + 1; omega) _) (by show w.heap.size ≤ w.heap.size + 1 + 1 + 1; omega) _) (by show w.heap.size ≤ w.heap.size + 1 + 1 + 1 + 1; omega) _) (by show w.heap.size ≤ w.heap.size + 1 + 1 + 1 + 1; omega) _)
      have u0 := Y0.cell 0 (by simp)
      have u1 := Y0.cell 1 (by simp)
      have u2 := Y1.cell 0 (by simp)
      have u3 := Y1.cell 1 (by simp)
      simp only [List.getElem_cons_zero, List.getElem_cons_succ] at u0 u1 u2 u3
      clear Y0 Y1 K2 HK2
      go_wp2
      go_big_region
      go_wp2
      rw [← HU.out]
      exact bodyPost_ret (v := .tuple #[pt s.px s.py, pt s.qx s.qy, .bool false]) (by simp [results, Try.results79, go_sem, u0, u1, u2, u3]) rfl ⟨_, _, _, _, false, rfl, (fun h => nomatch h), hBU⟩
   ·subst hi3
    obtain ⟨P, HP⟩ : ∃ t, Hid (outB 3 q.d s.px s.py = t) := ⟨_, (rfl : outB 3 q.d s.px s.py = _)⟩
    obtain ⟨Q, HQ⟩ : ∃ t, Hid (outB 3 q.d s.qx s.qy = t) := ⟨_, (rfl : outB 3 q.d s.qx s.qy = _)⟩
    have cP : ∀ w', Calls Try.prog 105 #[pt s.px s.py, .int .i64 q.d, .bool true, .bool false] w' fun r w'' => r = .returned (.bool (!P)) ∧ Bel w' w'' := fun w' => by rw [← HP.out]; exact on3 _ _ _ _
    have cQ : ∀ w', Calls Try.prog 105 #[pt s.qx s.qy, .int .i64 q.d, .bool true, .bool false] w' fun r w'' => r = .returned (.bool (!Q)) ∧ Bel w' w'' := fun w' => by rw [← HQ.out]; exact on3 _ _ _ _
    obtain ⟨wo, hwo⟩ : ∃ V, V = wr := ⟨_, rfl⟩
    subst hwo
    have hR : ∀ v, Bel wo v → v.cell? ⟨w.heap.size + 1 + 1 + 1 + 1 + 1, 0, none⟩ = some (.int .i64 s.px) ∧ v.cell? ⟨w.heap.size + 1 + 1 + 1 + 1 + 1, 1, none⟩ = some (.int .i64 s.py) ∧ v.cell? ⟨w.heap.size + 1 + 1 + 1 + 1 + 1 + 1 + 1, 3, none⟩ = some (.int .i64 q.d) := fun v h => ⟨(hK.step h).p.cell 0 (by simp), (hK.step h).p.cell 1 (by simp), (hK.step h).ed.cell 3 (by simp)⟩
    have g0 : Bel wo wo := Bel.refl _
    go_wp2
    go_region_held3 (fun w' => Bel wo w') (with_reducible (repeat (first | exact g0 | refine Bel.drew ?_ | assumption | refine bel_then (by assumption) ?_)))
     (first | (go_at_call 105; with_reducible refine (cP _).mono ?_; rintro r w' ⟨rfl, hbk⟩))
    have hH : Bel wo w' := by assumption
    obtain ⟨w1, hw1⟩ : ∃ V, V = w' := ⟨_, rfl⟩
    subst hw1
    have K1 := hK.step hH
    clear hR g0 cP
    have hR : ∀ v, Bel w1 v → v.cell? ⟨w.heap.size + 1 + 1 + 1 + 1 + 1 + 1, 0, none⟩ = some (.int .i64 s.qx) ∧ v.cell? ⟨w.heap.size + 1 + 1 + 1 + 1 + 1 + 1, 1, none⟩ = some (.int .i64 s.qy) ∧ v.cell? ⟨w.heap.size + 1 + 1 + 1 + 1 + 1 + 1 + 1, 3, none⟩ = some (.int .i64 q.d) := fun v h => ⟨(K1.step h).q'.cell 0 (by simp), (K1.step h).q'.cell 1 (by simp), (K1.step h).ed.cell 3 (by simp)⟩
    have g0 : Bel w1 w1 := Bel.refl _
    go_wp2
    go_region_held3 (fun w' => Bel w1 w') (with_reducible (repeat (first | exact g0 | refine Bel.drew ?_ | assumption | refine bel_then (by assumption) ?_)))
     (first | (go_at_call 105; with_reducible refine (cQ _).mono ?_; rintro r w' ⟨rfl, hbk⟩))
    have hH2 : Bel w1 w' := by assumption
    obtain ⟨w2, hw2⟩ : ∃ V, V = w' := ⟨_, rfl⟩
    subst hw2
    have K2 := K1.step hH2
    have HK2 : Hid (PV w q ax ay bx b_y w2 s) := K2
    clear hR g0 cQ K1
    cases P
    ·cases Q
     ·skip
      clear K2
      go_wp2
      go_roundw
      case rel => exact ⟨3 + 1, s, by omega, by go_num, HK2.out⟩
      case measure => simp [intOf]
     ·skip
      have cC' := fun w' => l6End_acrossw s.qx s.qy ax ay bx b_y q.d w' iay iby
      have gd : Bel w2 w2.drew := Bel.drew (Bel.refl _)
      have HS0 : Hid (∀ v, Bel w2 v → (v.cell? ⟨w.heap.size, 0, none⟩ = some (.int .i64 ax) ∧ v.cell? ⟨w.heap.size, 1, none⟩ = some (.int .i64 ay) ∧ v.cell? ⟨w.heap.size + 1, 0, none⟩ = some (.int .i64 bx) ∧ v.cell? ⟨w.heap.size + 1, 1, none⟩ = some (.int .i64 b_y) ∧ v.cell? ⟨w.heap.size + 1 + 1 + 1 + 1 + 1 + 1 + 1, 3, none⟩ = some (.int .i64 q.d))) := fun v h => ⟨(HK2.out.step h).a.cell 0 (by simp), (HK2.out.step h).a.cell 1 (by simp), (HK2.out.step h).b.cell 0 (by simp), (HK2.out.step h).b.cell 1 (by simp), (HK2.out.step h).ed.cell 3 (by simp)⟩
      have HSs : Hid (∀ (v : World) (o : Nat) (u : Value), (v.cell? ⟨w.heap.size, 0, none⟩ = some (.int .i64 ax) ∧ v.cell? ⟨w.heap.size, 1, none⟩ = some (.int .i64 ay) ∧ v.cell? ⟨w.heap.size + 1, 0, none⟩ = some (.int .i64 bx) ∧ v.cell? ⟨w.heap.size + 1, 1, none⟩ = some (.int .i64 b_y) ∧ v.cell? ⟨w.heap.size + 1 + 1 + 1 + 1 + 1 + 1 + 1, 3, none⟩ = some (.int .i64 q.d)) → ((v.setCell ⟨w.heap.size + 1 + 1 + 1 + 1 + 1 + 1, o, none⟩ u).cell? ⟨w.heap.size, 0, none⟩ = some (.int .i64 ax) ∧ (v.setCell ⟨w.heap.size + 1 + 1 + 1 + 1 + 1 + 1, o, none⟩ u).cell? ⟨w.heap.size, 1, none⟩ = some (.int .i64 ay) ∧ (v.setCell ⟨w.heap.size + 1 + 1 + 1 + 1 + 1 + 1, o, none⟩ u).cell? ⟨w.heap.size + 1, 0, none⟩ = some (.int .i64 bx) ∧ (v.setCell ⟨w.heap.size + 1 + 1 + 1 + 1 + 1 + 1, o, none⟩ u).cell? ⟨w.heap.size + 1, 1, none⟩ = some (.int .i64 b_y) ∧ (v.setCell ⟨w.heap.size + 1 + 1 + 1 + 1 + 1 + 1, o, none⟩ u).cell? ⟨w.heap.size + 1 + 1 + 1 + 1 + 1 + 1 + 1, 3, none⟩ = some (.int .i64 q.d))) := fun v o u h => by
       have e : ∀ k j, k ≠ w.heap.size + 1 + 1 + 1 + 1 + 1 + 1 → (v.setCell ⟨w.heap.size + 1 + 1 + 1 + 1 + 1 + 1, o, none⟩ u).cell? ⟨k, j, none⟩ = v.cell? ⟨k, j, none⟩ := fun k j hk => World.cell?_setCell_other _ _ _ _ (fun e => hk (congrArg Addr.block e).symm)
       rw [e _ _ (by omega), e _ _ (by omega), e _ _ (by omega), e _ _ (by omega), e _ _ (by omega)]; exact h
      have HR : Hid (∀ v, Bel w2 v → v.cell? ⟨w.heap.size + 1 + 1 + 1 + 1 + 1 + 1, 0, none⟩ = some (.int .i64 s.qx) ∧ v.cell? ⟨w.heap.size + 1 + 1 + 1 + 1 + 1 + 1, 1, none⟩ = some (.int .i64 s.qy) ∧ v.frozen? ⟨w.heap.size + 1 + 1 + 1 + 1 + 1 + 1, 0, none⟩ = false ∧ v.frozen? ⟨w.heap.size + 1 + 1 + 1 + 1 + 1 + 1, 1, none⟩ = false) := fun v h => ⟨(HK2.out.step h).q'.cell 0 (by simp), (HK2.out.step h).q'.cell 1 (by simp), (HK2.out.step h).q'.free 0, (HK2.out.step h).q'.free 1⟩
      have hcsd := HR.out _ gd
      clear K2
      go_wp2
      refine wp_region_noPanic ?_
      refine wp_region_held_drew (S := (fun w' => w'.cell? ⟨w.heap.size, 0, none⟩ = some (.int .i64 ax) ∧ w'.cell? ⟨w.heap.size, 1, none⟩ = some (.int .i64 ay) ∧ w'.cell? ⟨w.heap.size + 1, 0, none⟩ = some (.int .i64 bx) ∧ w'.cell? ⟨w.heap.size + 1, 1, none⟩ = some (.int .i64 b_y) ∧ w'.cell? ⟨w.heap.size + 1 + 1 + 1 + 1 + 1 + 1 + 1, 3, none⟩ = some (.int .i64 q.d))) (by kernel_rfl) (HS0.out _ gd) (fun hHeld => ?_)
      refine tk 1 hHeld ?_; refine tk 2 hHeld ?_; refine tk 3 hHeld ?_; refine tk 4 hHeld ?_; refine tk 5 hHeld ?_; refine tk 6 hHeld ?_
      refine tk 7 hHeld ?_
      refine rd1 0 (fun K hK => ?_)
      go_simp
      refine hK.out _ _ (hHeld) ?_; clear hK K hHeld; intro hHeld
      try simp only [Act.put, List.setIfInBounds_toArray, List.set_cons_zero, List.set_cons_succ]
      refine rd1 8 (fun K hK => ?_)
      go_simp
      refine (cC' _).mono ?_
      rintro r w' ⟨cx, cy, rfl, hbk0⟩
      have hbk : Bel w2 w' := bel_step gd hbk0
      clear hcsd
      have hcs := HR.out _ hbk
      clear hbk0
      go_wp2_with fail
      refine hK.out _ _ (HS0.out _ hbk) ?_; clear hK K hHeld; intro hHeld
      try simp only [Act.put, List.setIfInBounds_toArray, List.set_cons_zero, List.set_cons_succ]
      refine rd1 9 (fun K hK => ?_)
      go_simp
      refine hK.out _ _ (HSs.out _ _ _ (HSs.out _ _ _ hHeld)) ?_; clear hK K hHeld; intro hHeld
      try simp only [Act.put, List.setIfInBounds_toArray, List.set_cons_zero, List.set_cons_succ]
      refine wpAnyH_done (by kernel_rfl) ?_ _
      refine NoPanic.normal ?_
      have HK3 : Hid _ := (HK2.out.step hbk).setQ cx cy
      clear hcs hHeld
      go_wp2
      go_roundw
      case rel => exact ⟨3 + 1, _, by omega, by go_num, HK3.out⟩
      case measure => simp [intOf]
    ·cases Q
     ·skip
      have cC' := fun w' => l6End_acrossw s.px s.py ax ay bx b_y q.d w' iay iby
      have gd : Bel w2 w2.drew := Bel.drew (Bel.refl _)
      have HS0 : Hid (∀ v, Bel w2 v → (v.cell? ⟨w.heap.size, 0, none⟩ = some (.int .i64 ax) ∧ v.cell? ⟨w.heap.size, 1, none⟩ = some (.int .i64 ay) ∧ v.cell? ⟨w.heap.size + 1, 0, none⟩ = some (.int .i64 bx) ∧ v.cell? ⟨w.heap.size + 1, 1, none⟩ = some (.int .i64 b_y) ∧ v.cell? ⟨w.heap.size + 1 + 1 + 1 + 1 + 1 + 1 + 1, 3, none⟩ = some (.int .i64 q.d))) := fun v h => ⟨(HK2.out.step h).a.cell 0 (by simp), (HK2.out.step h).a.cell 1 (by simp), (HK2.out.step h).b.cell 0 (by simp), (HK2.out.step h).b.cell 1 (by simp), (HK2.out.step h).ed.cell 3 (by simp)⟩
      have HSs : Hid (∀ (v : World) (o : Nat) (u : Value), (v.cell? ⟨w.heap.size, 0, none⟩ = some (.int .i64 ax) ∧ v.cell? ⟨w.heap.size, 1, none⟩ = some (.int .i64 ay) ∧ v.cell? ⟨w.heap.size + 1, 0, none⟩ = some (.int .i64 bx) ∧ v.cell? ⟨w.heap.size + 1, 1, none⟩ = some (.int .i64 b_y) ∧ v.cell? ⟨w.heap.size + 1 + 1 + 1 + 1 + 1 + 1 + 1, 3, none⟩ = some (.int .i64 q.d)) → ((v.setCell ⟨w.heap.size + 1 + 1 + 1 + 1 + 1, o, none⟩ u).cell? ⟨w.heap.size, 0, none⟩ = some (.int .i64 ax) ∧ (v.setCell ⟨w.heap.size + 1 + 1 + 1 + 1 + 1, o, none⟩ u).cell? ⟨w.heap.size, 1, none⟩ = some (.int .i64 ay) ∧ (v.setCell ⟨w.heap.size + 1 + 1 + 1 + 1 + 1, o, none⟩ u).cell? ⟨w.heap.size + 1, 0, none⟩ = some (.int .i64 bx) ∧ (v.setCell ⟨w.heap.size + 1 + 1 + 1 + 1 + 1, o, none⟩ u).cell? ⟨w.heap.size + 1, 1, none⟩ = some (.int .i64 b_y) ∧ (v.setCell ⟨w.heap.size + 1 + 1 + 1 + 1 + 1, o, none⟩ u).cell? ⟨w.heap.size + 1 + 1 + 1 + 1 + 1 + 1 + 1, 3, none⟩ = some (.int .i64 q.d))) := fun v o u h => by
       have e : ∀ k j, k ≠ w.heap.size + 1 + 1 + 1 + 1 + 1 → (v.setCell ⟨w.heap.size + 1 + 1 + 1 + 1 + 1, o, none⟩ u).cell? ⟨k, j, none⟩ = v.cell? ⟨k, j, none⟩ := fun k j hk => World.cell?_setCell_other _ _ _ _ (fun e => hk (congrArg Addr.block e).symm)
       rw [e _ _ (by omega), e _ _ (by omega), e _ _ (by omega), e _ _ (by omega), e _ _ (by omega)]; exact h
      have HR : Hid (∀ v, Bel w2 v → v.cell? ⟨w.heap.size + 1 + 1 + 1 + 1 + 1, 0, none⟩ = some (.int .i64 s.px) ∧ v.cell? ⟨w.heap.size + 1 + 1 + 1 + 1 + 1, 1, none⟩ = some (.int .i64 s.py) ∧ v.frozen? ⟨w.heap.size + 1 + 1 + 1 + 1 + 1, 0, none⟩ = false ∧ v.frozen? ⟨w.heap.size + 1 + 1 + 1 + 1 + 1, 1, none⟩ = false) := fun v h => ⟨(HK2.out.step h).p.cell 0 (by simp), (HK2.out.step h).p.cell 1 (by simp), (HK2.out.step h).p.free 0, (HK2.out.step h).p.free 1⟩
      have hcsd := HR.out _ gd
      clear K2
      go_wp2
      refine wp_region_noPanic ?_
      refine wp_region_held_drew (S := (fun w' => w'.cell? ⟨w.heap.size, 0, none⟩ = some (.int .i64 ax) ∧ w'.cell? ⟨w.heap.size, 1, none⟩ = some (.int .i64 ay) ∧ w'.cell? ⟨w.heap.size + 1, 0, none⟩ = some (.int .i64 bx) ∧ w'.cell? ⟨w.heap.size + 1, 1, none⟩ = some (.int .i64 b_y) ∧ w'.cell? ⟨w.heap.size + 1 + 1 + 1 + 1 + 1 + 1 + 1, 3, none⟩ = some (.int .i64 q.d))) (by kernel_rfl) (HS0.out _ gd) (fun hHeld => ?_)
      refine tk 1 hHeld ?_; refine tk 2 hHeld ?_; refine tk 3 hHeld ?_; refine tk 4 hHeld ?_; refine tk 5 hHeld ?_; refine tk 6 hHeld ?_
      refine tk 7 hHeld ?_
      refine rd1 0 (fun K hK => ?_)
      go_simp
      refine hK.out _ _ (hHeld) ?_; clear hK K hHeld; intro hHeld
      try simp only [Act.put, List.setIfInBounds_toArray, List.set_cons_zero, List.set_cons_succ]
      refine rd1 8 (fun K hK => ?_)
      go_simp
      refine (cC' _).mono ?_
      rintro r w' ⟨cx, cy, rfl, hbk0⟩
      have hbk : Bel w2 w' := bel_step gd hbk0
      clear hcsd
      have hcs := HR.out _ hbk
      clear hbk0
      go_wp2_with fail
      refine hK.out _ _ (HS0.out _ hbk) ?_; clear hK K hHeld; intro hHeld
      try simp only [Act.put, List.setIfInBounds_toArray, List.set_cons_zero, List.set_cons_succ]
      refine rd1 9 (fun K hK => ?_)
      go_simp
      refine hK.out _ _ (HSs.out _ _ _ (HSs.out _ _ _ hHeld)) ?_; clear hK K hHeld; intro hHeld
      try simp only [Act.put, List.setIfInBounds_toArray, List.set_cons_zero, List.set_cons_succ]
      refine wpAnyH_done (by kernel_rfl) ?_ _
      refine NoPanic.normal ?_
      have HK3 : Hid _ := (HK2.out.step hbk).setP cx cy
      clear hcs hHeld
      go_wp2
      go_roundw
      case rel => exact ⟨3 + 1, _, by omega, by go_num, HK3.out⟩
      case measure => simp [intOf]
     ·skip
      have f0 := K2.r0.free 0
      have f1 := K2.r0.free 1
      have f2 := K2.r1.free 0
      have f3 := K2.r1.free 1
      have z0 := K2.r0.cell 0 (by simp)
      have z1 := K2.r0.cell 1 (by simp)
      have z2 := K2.r1.cell 0 (by simp)
      have z3 := K2.r1.cell 1 (by simp)
      have p0 := K2.p.cell 0 (by simp)
      have p1 := K2.p.cell 1 (by simp)
      have q0 := K2.q'.cell 0 (by simp)
      have q1 := K2.q'.cell 1 (by simp)
      simp only [List.getElem_cons_zero, List.getElem_cons_succ] at z0 z1 z2 z3 p0 p1 q0 q1
      obtain ⟨U, HU⟩ : ∃ U, Hid (U = ((((w2.setCell ⟨w.heap.size + 1 + 1 + 1, 0, none⟩ (.int .i64 s.px)).setCell ⟨w.heap.size + 1 + 1 + 1, 1, none⟩ (.int .i64 s.py)).setCell ⟨w.heap.size + 1 + 1 + 1 + 1, 0, none⟩ (.int .i64 s.qx)).setCell ⟨w.heap.size + 1 + 1 + 1 + 1, 1, none⟩ (.int .i64 s.qy)).drew) := ⟨_, (rfl : ((((w2.setCell ⟨w.heap.size + 1 + 1 + 1, 0, none⟩ (.int .i64 s.px)).setCell ⟨w.heap.size + 1 + 1 + 1, 1, none⟩ (.int .i64 s.py)).setCell ⟨w.heap.size + 1 + 1 + 1 + 1, 0, none⟩ (.int .i64 s.qx)).setCell ⟨w.heap.size + 1 + 1 + 1 + 1, 1, none⟩ (.int .i64 s.qy)).drew = _)⟩
      have Y0 : Blk U (w.heap.size + 1 + 1 + 1) [.int .i64 s.px, .int .i64 s.py] := by rw [HU.out]; exact ((((K2.r0.set 0 _ (by simp)).set 1 _ (by simp)).far (by omega)).far (by omega)).bel (Bel.drew (Bel.refl _))
      have Y1 : Blk U (w.heap.size + 1 + 1 + 1 + 1) [.int .i64 s.qx, .int .i64 s.qy] := by rw [HU.out]; exact ((((K2.r1.far (by omega)).far (by omega)).set 0 _ (by simp)).set 1 _ (by simp)).bel (Bel.drew (Bel.refl _))
      have hBU : Bel w U := by rw [HU.out]; exact Bel.drew (bel_set (bel_set (bel_set (bel_set K2.bel (by show w.heap.size ≤ w.heap.size + 1 + 1 + 1; omega) _) (by show w.heap.size ≤ w.heap.size + 1 + 1 + 1; omega) _) (by show w.heap.size ≤ w.heap.size + 1 + 1 + 1 + 1; omega) _) (by show w.heap.size ≤ w.heap.size + 1 + 1 + 1 + 1; omega) _)
      have u0 := Y0.cell 0 (by simp)
      have u1 := Y0.cell 1 (by simp)
      have u2 := Y1.cell 0 (by simp)
      have u3 := Y1.cell 1 (by simp)
      simp only [List.getElem_cons_zero, List.getElem_cons_succ] at u0 u1 u2 u3
      clear Y0 Y1 K2 HK2
      go_wp2
      go_big_region
      go_wp2
      rw [← HU.out]
      exact bodyPost_ret (v := .tuple #[pt s.px s.py, pt s.qx s.qy, .bool false]) (by simp [results, Try.results79, go_sem, u0, u1, u2, u3]) rfl ⟨_, _, _, _, false, rfl, (fun h => nomatch h), hBU⟩
  ·obtain rfl : j = 4 := by omega
   have m1 := fun w' => l6Clamp_any s.px q.a q.c w' hx0
   have m2 := fun w' => l6Clamp_any s.py q.b q.d w' hy0
   have m3 := fun w' => l6Clamp_any s.qx q.a q.c w' hx0
   have m4 := fun w' => l6Clamp_any s.qy q.b q.d w' hy0
   obtain ⟨t1, Ht1⟩ : ∃ t, Hid (clm s.px q.a q.c = t) := ⟨_, (rfl : clm s.px q.a q.c = _)⟩
   obtain ⟨t2, Ht2⟩ : ∃ t, Hid (clm s.py q.b q.d = t) := ⟨_, (rfl : clm s.py q.b q.d = _)⟩
   obtain ⟨t3, Ht3⟩ : ∃ t, Hid (clm s.qx q.a q.c = t) := ⟨_, (rfl : clm s.qx q.a q.c = _)⟩
   obtain ⟨t4, Ht4⟩ : ∃ t, Hid (clm s.qy q.b q.d = t) := ⟨_, (rfl : clm s.qy q.b q.d = _)⟩
   rw [Ht1.out] at m1
   rw [Ht2.out] at m2
   rw [Ht3.out] at m3
   rw [Ht4.out] at m4
   have HB : Hid (PqP ⟨t1, t2⟩ ∧ PqP ⟨t3, t4⟩) := (by rw [← Ht1.out, ← Ht2.out, ← Ht3.out, ← Ht4.out]; exact pq_clm h6 hx0 hy0 _ _ _ _ : PqP ⟨t1, t2⟩ ∧ PqP ⟨t3, t4⟩)
   obtain ⟨wA, hwo⟩ : ∃ V, V = wr := ⟨_, rfl⟩
   subst hwo
   have HKA : Hid (PV w q ax ay bx b_y wA s) := hK
   clear hK
   go_upto_region 17 with fail
   go_cut [] (fun wx => PV w q ax ay bx b_y wx ⟨t1, t2, s.qx, s.qy⟩)
   case first =>
    have gd : Bel wA wA.drew := Bel.drew (Bel.refl _)
    have HS0 : Hid (∀ v, Bel wA v → (v.cell? ⟨w.heap.size + 1 + 1, 0, none⟩ = some (.int .i64 q.a) ∧ v.cell? ⟨w.heap.size + 1 + 1, 1, none⟩ = some (.int .i64 q.b) ∧ v.cell? ⟨w.heap.size + 1 + 1, 2, none⟩ = some (.int .i64 q.c) ∧ v.cell? ⟨w.heap.size + 1 + 1, 3, none⟩ = some (.int .i64 q.d))) := fun v h => ⟨(HKA.out.step h).x.cell 0 (by simp), (HKA.out.step h).x.cell 1 (by simp), (HKA.out.step h).x.cell 2 (by simp), (HKA.out.step h).x.cell 3 (by simp)⟩
    have HSs : Hid (∀ (v : World) (o : Nat) (u : Value), (v.cell? ⟨w.heap.size + 1 + 1, 0, none⟩ = some (.int .i64 q.a) ∧ v.cell? ⟨w.heap.size + 1 + 1, 1, none⟩ = some (.int .i64 q.b) ∧ v.cell? ⟨w.heap.size + 1 + 1, 2, none⟩ = some (.int .i64 q.c) ∧ v.cell? ⟨w.heap.size + 1 + 1, 3, none⟩ = some (.int .i64 q.d)) → ((v.setCell ⟨w.heap.size + 1 + 1 + 1 + 1 + 1, o, none⟩ u).cell? ⟨w.heap.size + 1 + 1, 0, none⟩ = some (.int .i64 q.a) ∧ (v.setCell ⟨w.heap.size + 1 + 1 + 1 + 1 + 1, o, none⟩ u).cell? ⟨w.heap.size + 1 + 1, 1, none⟩ = some (.int .i64 q.b) ∧ (v.setCell ⟨w.heap.size + 1 + 1 + 1 + 1 + 1, o, none⟩ u).cell? ⟨w.heap.size + 1 + 1, 2, none⟩ = some (.int .i64 q.c) ∧ (v.setCell ⟨w.heap.size + 1 + 1 + 1 + 1 + 1, o, none⟩ u).cell? ⟨w.heap.size + 1 + 1, 3, none⟩ = some (.int .i64 q.d))) := fun v o u h => by
     have e : ∀ k j, k ≠ w.heap.size + 1 + 1 + 1 + 1 + 1 → (v.setCell ⟨w.heap.size + 1 + 1 + 1 + 1 + 1, o, none⟩ u).cell? ⟨k, j, none⟩ = v.cell? ⟨k, j, none⟩ := fun k j hk => World.cell?_setCell_other _ _ _ _ (fun e => hk (congrArg Addr.block e).symm)
     rw [e _ _ (by omega), e _ _ (by omega), e _ _ (by omega), e _ _ (by omega)]; exact h
    have hcsd : wA.drew.cell? ⟨w.heap.size + 1 + 1 + 1 + 1 + 1, 0, none⟩ = some (.int .i64 s.px) ∧ wA.drew.cell? ⟨w.heap.size + 1 + 1 + 1 + 1 + 1, 1, none⟩ = some (.int .i64 s.py) ∧ wA.drew.frozen? ⟨w.heap.size + 1 + 1 + 1 + 1 + 1, 0, none⟩ = false ∧ wA.drew.frozen? ⟨w.heap.size + 1 + 1 + 1 + 1 + 1, 1, none⟩ = false := ⟨(HKA.out.step gd).p.cell 0 (by simp), (HKA.out.step gd).p.cell 1 (by simp), (HKA.out.step gd).p.free 0, (HKA.out.step gd).p.free 1⟩
    go_wp2
    refine wp_region_noPanic ?_
    refine wp_region_held_drew (S := (fun w' => w'.cell? ⟨w.heap.size + 1 + 1, 0, none⟩ = some (.int .i64 q.a) ∧ w'.cell? ⟨w.heap.size + 1 + 1, 1, none⟩ = some (.int .i64 q.b) ∧ w'.cell? ⟨w.heap.size + 1 + 1, 2, none⟩ = some (.int .i64 q.c) ∧ w'.cell? ⟨w.heap.size + 1 + 1, 3, none⟩ = some (.int .i64 q.d))) (by kernel_rfl) (HS0.out _ gd) (fun hHeld => ?_)
    generalize wA.drew = wD at hcsd gd hHeld ⊢
    refine tk 0 hHeld ?_; refine tk 2 hHeld ?_; refine tk 3 hHeld ?_; refine tk 4 hHeld ?_; refine tk 5 hHeld ?_; refine tk 6 hHeld ?_
    refine tk 7 hHeld ?_; refine tk 9 hHeld ?_; refine tk 11 hHeld ?_; refine tk 12 hHeld ?_; refine tk 13 hHeld ?_
    refine tk 14 hHeld ?_; refine tk 15 hHeld ?_; refine tk 16 hHeld ?_
    refine rd2 1 10 (fun K hK => ?_) (fun K hK => ?_)
    ·go_simp
     refine hK.out _ _ (hHeld) ?_; clear hK K hHeld; intro hHeld
     try simp only [Act.put, List.setIfInBounds_toArray, List.set_cons_zero, List.set_cons_succ]
     refine rd2 8 10 (fun K hK => ?_) (fun K hK => ?_)
     ·go_simp
      refine (m1 _).mono ?_
      rintro r w' ⟨rfl, rfl⟩
      go_wp2_with fail
      refine hK.out _ _ (hHeld) ?_; clear hK K hHeld; intro hHeld
      try simp only [Act.put, List.setIfInBounds_toArray, List.set_cons_zero, List.set_cons_succ]
      refine rd1 10 (fun K hK => ?_)
      go_simp
      refine hK.out _ _ (hHeld) ?_; clear hK K hHeld; intro hHeld
      try simp only [Act.put, List.setIfInBounds_toArray, List.set_cons_zero, List.set_cons_succ]
      refine rd1 17 (fun K hK => ?_)
      go_simp
      refine (m2 _).mono ?_
      rintro r w' ⟨rfl, rfl⟩
      go_wp2_with fail
      refine hK.out _ _ (hHeld) ?_; clear hK K hHeld; intro hHeld
      try simp only [Act.put, List.setIfInBounds_toArray, List.set_cons_zero, List.set_cons_succ]
      refine tk 18 hHeld ?_
      refine rd1 19 (fun K hK => ?_)
      go_simp
      refine hK.out _ _ (HSs.out _ _ _ (HSs.out _ _ _ hHeld)) ?_; clear hK K hHeld; intro hHeld
      try simp only [Act.put, List.setIfInBounds_toArray, List.set_cons_zero, List.set_cons_succ]
      refine wpAnyH_done (by kernel_rfl) ?_ _
      refine NoPanic.normal ?_
      go_wp2_with fail
      go_meet
      exact (HKA.out.step gd).setP t1 t2
     ·go_simp
      refine hK.out _ _ (hHeld) ?_; clear hK K hHeld; intro hHeld
      try simp only [Act.put, List.setIfInBounds_toArray, List.set_cons_zero, List.set_cons_succ]
      refine rd1 8 (fun K hK => ?_)
      go_simp
      refine (m1 _).mono ?_
      rintro r w' ⟨rfl, rfl⟩
      go_wp2_with fail
      refine hK.out _ _ (hHeld) ?_; clear hK K hHeld; intro hHeld
      try simp only [Act.put, List.setIfInBounds_toArray, List.set_cons_zero, List.set_cons_succ]
      refine rd1 17 (fun K hK => ?_)
      go_simp
      refine (m2 _).mono ?_
      rintro r w' ⟨rfl, rfl⟩
      go_wp2_with fail
      refine hK.out _ _ (hHeld) ?_; clear hK K hHeld; intro hHeld
      try simp only [Act.put, List.setIfInBounds_toArray, List.set_cons_zero, List.set_cons_succ]
      refine tk 18 hHeld ?_
      refine rd1 19 (fun K hK => ?_)
      go_simp
      refine hK.out _ _ (HSs.out _ _ _ (HSs.out _ _ _ hHeld)) ?_; clear hK K hHeld; intro hHeld
      try simp only [Act.put, List.setIfInBounds_toArray, List.set_cons_zero, List.set_cons_succ]
      refine wpAnyH_done (by kernel_rfl) ?_ _
      refine NoPanic.normal ?_
      go_wp2_with fail
      go_meet
      exact (HKA.out.step gd).setP t1 t2
    ·go_simp
     refine hK.out _ _ (hHeld) ?_; clear hK K hHeld; intro hHeld
     try simp only [Act.put, List.setIfInBounds_toArray, List.set_cons_zero, List.set_cons_succ]
     refine rd1 1 (fun K hK => ?_)
     go_simp
     refine hK.out _ _ (hHeld) ?_; clear hK K hHeld; intro hHeld
     try simp only [Act.put, List.setIfInBounds_toArray, List.set_cons_zero, List.set_cons_succ]
     refine rd1 8 (fun K hK => ?_)
     go_simp
     refine (m1 _).mono ?_
     rintro r w' ⟨rfl, rfl⟩
     go_wp2_with fail
     refine hK.out _ _ (hHeld) ?_; clear hK K hHeld; intro hHeld
     try simp only [Act.put, List.setIfInBounds_toArray, List.set_cons_zero, List.set_cons_succ]
     refine rd1 17 (fun K hK => ?_)
     go_simp
     refine (m2 _).mono ?_
     rintro r w' ⟨rfl, rfl⟩
     go_wp2_with fail
     refine hK.out _ _ (hHeld) ?_; clear hK K hHeld; intro hHeld
     try simp only [Act.put, List.setIfInBounds_toArray, List.set_cons_zero, List.set_cons_succ]
     refine tk 18 hHeld ?_
     refine rd1 19 (fun K hK => ?_)
     go_simp
     refine hK.out _ _ (HSs.out _ _ _ (HSs.out _ _ _ hHeld)) ?_; clear hK K hHeld; intro hHeld
     try simp only [Act.put, List.setIfInBounds_toArray, List.set_cons_zero, List.set_cons_succ]
     refine wpAnyH_done (by kernel_rfl) ?_ _
     refine NoPanic.normal ?_
     go_wp2_with fail
     go_meet
     exact (HKA.out.step gd).setP t1 t2
   case rest =>
    have HKA : Hid (PV w q ax ay bx b_y wc ⟨t1, t2, s.qx, s.qy⟩) := hcut
    clear hcut
    obtain ⟨wA, rfl⟩ : ∃ V, V = wc := ⟨_, rfl⟩
    go_upto_region 18 with fail
    go_cut [] (fun wx => PV w q ax ay bx b_y wx ⟨t1, t2, t3, t4⟩)
    case first =>
     have gd : Bel wA wA.drew := Bel.drew (Bel.refl _)
     have HS0 : Hid (∀ v, Bel wA v → (v.cell? ⟨w.heap.size + 1 + 1, 0, none⟩ = some (.int .i64 q.a) ∧ v.cell? ⟨w.heap.size + 1 + 1, 1, none⟩ = some (.int .i64 q.b) ∧ v.cell? ⟨w.heap.size + 1 + 1, 2, none⟩ = some (.int .i64 q.c) ∧ v.cell? ⟨w.heap.size + 1 + 1, 3, none⟩ = some (.int .i64 q.d))) := fun v h => ⟨(HKA.out.step h).x.cell 0 (by simp), (HKA.out.step h).x.cell 1 (by simp), (HKA.out.step h).x.cell 2 (by simp), (HKA.out.step h).x.cell 3 (by simp)⟩
     have HSs : Hid (∀ (v : World) (o : Nat) (u : Value), (v.cell? ⟨w.heap.size + 1 + 1, 0, none⟩ = some (.int .i64 q.a) ∧ v.cell? ⟨w.heap.size + 1 + 1, 1, none⟩ = some (.int .i64 q.b) ∧ v.cell? ⟨w.heap.size + 1 + 1, 2, none⟩ = some (.int .i64 q.c) ∧ v.cell? ⟨w.heap.size + 1 + 1, 3, none⟩ = some (.int .i64 q.d)) → ((v.setCell ⟨w.heap.size + 1 + 1 + 1 + 1 + 1 + 1, o, none⟩ u).cell? ⟨w.heap.size + 1 + 1, 0, none⟩ = some (.int .i64 q.a) ∧ (v.setCell ⟨w.heap.size + 1 + 1 + 1 + 1 + 1 + 1, o, none⟩ u).cell? ⟨w.heap.size + 1 + 1, 1, none⟩ = some (.int .i64 q.b) ∧ (v.setCell ⟨w.heap.size + 1 + 1 + 1 + 1 + 1 + 1, o, none⟩ u).cell? ⟨w.heap.size + 1 + 1, 2, none⟩ = some (.int .i64 q.c) ∧ (v.setCell ⟨w.heap.size + 1 + 1 + 1 + 1 + 1 + 1, o, none⟩ u).cell? ⟨w.heap.size + 1 + 1, 3, none⟩ = some (.int .i64 q.d))) := fun v o u h => by
      have e : ∀ k j, k ≠ w.heap.size + 1 + 1 + 1 + 1 + 1 + 1 → (v.setCell ⟨w.heap.size + 1 + 1 + 1 + 1 + 1 + 1, o, none⟩ u).cell? ⟨k, j, none⟩ = v.cell? ⟨k, j, none⟩ := fun k j hk => World.cell?_setCell_other _ _ _ _ (fun e => hk (congrArg Addr.block e).symm)
      rw [e _ _ (by omega), e _ _ (by omega), e _ _ (by omega), e _ _ (by omega)]; exact h
     have hcsd : wA.drew.cell? ⟨w.heap.size + 1 + 1 + 1 + 1 + 1 + 1, 0, none⟩ = some (.int .i64 s.qx) ∧ wA.drew.cell? ⟨w.heap.size + 1 + 1 + 1 + 1 + 1 + 1, 1, none⟩ = some (.int .i64 s.qy) ∧ wA.drew.frozen? ⟨w.heap.size + 1 + 1 + 1 + 1 + 1 + 1, 0, none⟩ = false ∧ wA.drew.frozen? ⟨w.heap.size + 1 + 1 + 1 + 1 + 1 + 1, 1, none⟩ = false := ⟨(HKA.out.step gd).q'.cell 0 (by simp), (HKA.out.step gd).q'.cell 1 (by simp), (HKA.out.step gd).q'.free 0, (HKA.out.step gd).q'.free 1⟩
     go_wp2
     refine wp_region_noPanic ?_
     refine wp_region_held_drew (S := (fun w' => w'.cell? ⟨w.heap.size + 1 + 1, 0, none⟩ = some (.int .i64 q.a) ∧ w'.cell? ⟨w.heap.size + 1 + 1, 1, none⟩ = some (.int .i64 q.b) ∧ w'.cell? ⟨w.heap.size + 1 + 1, 2, none⟩ = some (.int .i64 q.c) ∧ w'.cell? ⟨w.heap.size + 1 + 1, 3, none⟩ = some (.int .i64 q.d))) (by kernel_rfl) (HS0.out _ gd) (fun hHeld => ?_)
     generalize wA.drew = wD at hcsd gd hHeld ⊢
     refine tk 0 hHeld ?_; refine tk 2 hHeld ?_; refine tk 3 hHeld ?_; refine tk 4 hHeld ?_; refine tk 5 hHeld ?_; refine tk 6 hHeld ?_
     refine tk 7 hHeld ?_; refine tk 9 hHeld ?_; refine tk 11 hHeld ?_; refine tk 12 hHeld ?_; refine tk 13 hHeld ?_
     refine tk 14 hHeld ?_; refine tk 15 hHeld ?_; refine tk 16 hHeld ?_
     refine rd2 1 10 (fun K hK => ?_) (fun K hK => ?_)
     ·go_simp
      refine hK.out _ _ (hHeld) ?_; clear hK K hHeld; intro hHeld
      try simp only [Act.put, List.setIfInBounds_toArray, List.set_cons_zero, List.set_cons_succ]
      refine rd2 8 10 (fun K hK => ?_) (fun K hK => ?_)
      ·go_simp
       refine (m3 _).mono ?_
       rintro r w' ⟨rfl, rfl⟩
       go_wp2_with fail
       refine hK.out _ _ (hHeld) ?_; clear hK K hHeld; intro hHeld
       try simp only [Act.put, List.setIfInBounds_toArray, List.set_cons_zero, List.set_cons_succ]
       refine rd1 10 (fun K hK => ?_)
       go_simp
       refine hK.out _ _ (hHeld) ?_; clear hK K hHeld; intro hHeld
       try simp only [Act.put, List.setIfInBounds_toArray, List.set_cons_zero, List.set_cons_succ]
       refine rd1 17 (fun K hK => ?_)
       go_simp
       refine (m4 _).mono ?_
       rintro r w' ⟨rfl, rfl⟩
       go_wp2_with fail
       refine hK.out _ _ (hHeld) ?_; clear hK K hHeld; intro hHeld
       try simp only [Act.put, List.setIfInBounds_toArray, List.set_cons_zero, List.set_cons_succ]
       refine tk 18 hHeld ?_
       refine rd1 19 (fun K hK => ?_)
       go_simp
       refine hK.out _ _ (HSs.out _ _ _ (HSs.out _ _ _ hHeld)) ?_; clear hK K hHeld; intro hHeld
       try simp only [Act.put, List.setIfInBounds_toArray, List.set_cons_zero, List.set_cons_succ]
       refine wpAnyH_done (by kernel_rfl) ?_ _
       refine NoPanic.normal ?_
       go_wp2_with fail
       go_meet
       exact (HKA.out.step gd).setQ t3 t4
      ·go_simp
       refine hK.out _ _ (hHeld) ?_; clear hK K hHeld; intro hHeld
       try simp only [Act.put, List.setIfInBounds_toArray, List.set_cons_zero, List.set_cons_succ]
       refine rd1 8 (fun K hK => ?_)
       go_simp
       refine (m3 _).mono ?_
       rintro r w' ⟨rfl, rfl⟩
       go_wp2_with fail
       refine hK.out _ _ (hHeld) ?_; clear hK K hHeld; intro hHeld
       try simp only [Act.put, List.setIfInBounds_toArray, List.set_cons_zero, List.set_cons_succ]
       refine rd1 17 (fun K hK => ?_)
       go_simp
       refine (m4 _).mono ?_
       rintro r w' ⟨rfl, rfl⟩
       go_wp2_with fail
       refine hK.out _ _ (hHeld) ?_; clear hK K hHeld; intro hHeld
       try simp only [Act.put, List.setIfInBounds_toArray, List.set_cons_zero, List.set_cons_succ]
       refine tk 18 hHeld ?_
       refine rd1 19 (fun K hK => ?_)
       go_simp
       refine hK.out _ _ (HSs.out _ _ _ (HSs.out _ _ _ hHeld)) ?_; clear hK K hHeld; intro hHeld
       try simp only [Act.put, List.setIfInBounds_toArray, List.set_cons_zero, List.set_cons_succ]
       refine wpAnyH_done (by kernel_rfl) ?_ _
       refine NoPanic.normal ?_
       go_wp2_with fail
       go_meet
       exact (HKA.out.step gd).setQ t3 t4
     ·go_simp
      refine hK.out _ _ (hHeld) ?_; clear hK K hHeld; intro hHeld
      try simp only [Act.put, List.setIfInBounds_toArray, List.set_cons_zero, List.set_cons_succ]
      refine rd1 1 (fun K hK => ?_)
      go_simp
      refine hK.out _ _ (hHeld) ?_; clear hK K hHeld; intro hHeld
      try simp only [Act.put, List.setIfInBounds_toArray, List.set_cons_zero, List.set_cons_succ]
      refine rd1 8 (fun K hK => ?_)
      go_simp
      refine (m3 _).mono ?_
      rintro r w' ⟨rfl, rfl⟩
      go_wp2_with fail
      refine hK.out _ _ (hHeld) ?_; clear hK K hHeld; intro hHeld
      try simp only [Act.put, List.setIfInBounds_toArray, List.set_cons_zero, List.set_cons_succ]
      refine rd1 17 (fun K hK => ?_)
      go_simp
      refine (m4 _).mono ?_
      rintro r w' ⟨rfl, rfl⟩
      go_wp2_with fail
      refine hK.out _ _ (hHeld) ?_; clear hK K hHeld; intro hHeld
      try simp only [Act.put, List.setIfInBounds_toArray, List.set_cons_zero, List.set_cons_succ]
      refine tk 18 hHeld ?_
      refine rd1 19 (fun K hK => ?_)
      go_simp
      refine hK.out _ _ (HSs.out _ _ _ (HSs.out _ _ _ hHeld)) ?_; clear hK K hHeld; intro hHeld
      try simp only [Act.put, List.setIfInBounds_toArray, List.set_cons_zero, List.set_cons_succ]
      refine wpAnyH_done (by kernel_rfl) ?_ _
      refine NoPanic.normal ?_
      go_wp2_with fail
      go_meet
      exact (HKA.out.step gd).setQ t3 t4
    case rest =>
     have Hk : Hid (PV w q ax ay bx b_y wc ⟨t1, t2, t3, t4⟩) := hcut
     clear hcut HKA m1 m2 m3 m4
     obtain ⟨wB, rfl⟩ : ∃ V, V = wc := ⟨_, rfl⟩
     have p0 := Hk.out.p.cell 0 (by simp)
     have p1 := Hk.out.p.cell 1 (by simp)
     have q0 := Hk.out.q'.cell 0 (by simp)
     have q1 := Hk.out.q'.cell 1 (by simp)
     have a0 := Hk.out.a.cell 0 (by simp)
     have a1 := Hk.out.a.cell 1 (by simp)
     have b0 := Hk.out.b.cell 0 (by simp)
     have b1 := Hk.out.b.cell 1 (by simp)
     have r0 := Hk.out.r0.cell 0 (by simp)
     have r1 := Hk.out.r0.cell 1 (by simp)
     have r2 := Hk.out.r1.cell 0 (by simp)
     have r3 := Hk.out.r1.cell 1 (by simp)
     have f0 := Hk.out.r0.free 0
     have f1 := Hk.out.r0.free 1
     have f2 := Hk.out.r1.free 0
     have f3 := Hk.out.r1.free 1
     simp only [List.getElem_cons_zero, List.getElem_cons_succ] at p0 p1 q0 q1 a0 a1 b0 b1 r0 r1 r2 r3
     obtain ⟨U, HU⟩ : ∃ U, Hid (U = ((((wB.setCell ⟨w.heap.size + 1 + 1 + 1, 0, none⟩ (.int .i64 t1)).setCell ⟨w.heap.size + 1 + 1 + 1, 1, none⟩ (.int .i64 t2)).setCell ⟨w.heap.size + 1 + 1 + 1 + 1, 0, none⟩ (.int .i64 t3)).setCell ⟨w.heap.size + 1 + 1 + 1 + 1, 1, none⟩ (.int .i64 t4)).drew) := ⟨_, (rfl : ((((wB.setCell ⟨w.heap.size + 1 + 1 + 1, 0, none⟩ (.int .i64 t1)).setCell ⟨w.heap.size + 1 + 1 + 1, 1, none⟩ (.int .i64 t2)).setCell ⟨w.heap.size + 1 + 1 + 1 + 1, 0, none⟩ (.int .i64 t3)).setCell ⟨w.heap.size + 1 + 1 + 1 + 1, 1, none⟩ (.int .i64 t4)).drew = _)⟩
     have Y0 : Blk U (w.heap.size + 1 + 1 + 1) [.int .i64 t1, .int .i64 t2] := by rw [HU.out]; exact ((((Hk.out.r0.set 0 _ (by simp)).set 1 _ (by simp)).far (by omega)).far (by omega)).bel (Bel.drew (Bel.refl _))
     have Y1 : Blk U (w.heap.size + 1 + 1 + 1 + 1) [.int .i64 t3, .int .i64 t4] := by rw [HU.out]; exact ((((Hk.out.r1.far (by omega)).far (by omega)).set 0 _ (by simp)).set 1 _ (by simp)).bel (Bel.drew (Bel.refl _))
     have hBU : Bel w U := by rw [HU.out]; exact Bel.drew (bel_set (bel_set (bel_set (bel_set Hk.out.bel (by show w.heap.size ≤ w.heap.size + 1 + 1 + 1; omega) _) (by show w.heap.size ≤ w.heap.size + 1 + 1 + 1; omega) _) (by show w.heap.size ≤ w.heap.size + 1 + 1 + 1 + 1; omega) _) (by show w.heap.size ≤ w.heap.size + 1 + 1 + 1 + 1; omega) _)
     have u0 := Y0.cell 0 (by simp)
     have u1 := Y0.cell 1 (by simp)
     have u2 := Y1.cell 0 (by simp)
     have u3 := Y1.cell 1 (by simp)
     simp only [List.getElem_cons_zero, List.getElem_cons_succ] at u0 u1 u2 u3
     clear Y0 Y1
     by_cases hab : ax = bx ∧ ay = b_y
     ·have heq : ∀ w, Sem.run Try.prog (binOp .eql 31 (.agg #[.int .i64 ax, .int .i64 ay]) (.agg #[.int .i64 bx, .int .i64 b_y])) w = .ok (.bool true) w := fun w => by rw [ptEq, pt_same hab]
      clear hab Hk
      go_wp2
      go_big_region
      go_wp2
      rw [← HU.out]
      exact bodyPost_ret (v := .tuple #[pt t1 t2, pt t3 t4, .bool true]) (by simp [results, Try.results79, go_sem, u0, u1, u2, u3]) rfl ⟨_, _, _, _, true, rfl, (fun _ => HB.out), hBU⟩
     ·have heq : ∀ w, Sem.run Try.prog (binOp .eql 31 (.agg #[.int .i64 ax, .int .i64 ay]) (.agg #[.int .i64 bx, .int .i64 b_y])) w = .ok (.bool false) w := fun w => by rw [ptEq, pt_diff hab]
      by_cases hpq : t1 = t3 ∧ t2 = t4
      ·have hne : ∀ w, Sem.run Try.prog (binOp .neq 31 (.agg #[.int .i64 t1, .int .i64 t2]) (.agg #[.int .i64 t3, .int .i64 t4])) w = .ok (.bool false) w := fun w => by rw [ptNe, pt_same hpq]; rfl
       clear hpq hab Hk
       go_wp2
       go_big_region
       go_wp2
       rw [← HU.out]
       exact bodyPost_ret (v := .tuple #[pt t1 t2, pt t3 t4, .bool false]) (by simp [results, Try.results79, go_sem, u0, u1, u2, u3]) rfl ⟨_, _, _, _, false, rfl, (fun h => nomatch h), hBU⟩
      ·have hne : ∀ w, Sem.run Try.prog (binOp .neq 31 (.agg #[.int .i64 t1, .int .i64 t2]) (.agg #[.int .i64 t3, .int .i64 t4])) w = .ok (.bool true) w := fun w => by rw [ptNe, pt_diff hpq]; rfl
       clear hpq hab Hk
       go_wp2
       go_big_region
       go_wp2
       rw [← HU.out]
       exact bodyPost_ret (v := .tuple #[pt t1 t2, pt t3 t4, .bool true]) (by simp [results, Try.results79, go_sem, u0, u1, u2, u3]) rfl ⟨_, _, _, _, true, rfl, (fun _ => HB.out), hBU⟩
end Go.Proofs.Ytkmccjjghpnejaa
