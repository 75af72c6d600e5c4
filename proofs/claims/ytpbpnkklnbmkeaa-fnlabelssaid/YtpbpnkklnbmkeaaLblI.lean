/-
  Whether two labels overlap; whether labels can be: contracts, of the program and of its model.
-/
import Derived.Test.YtpbpnkklnbmkeaaTk
import Derived.Test.YtpbpnkklnbmkeaaLblM
import Derived.Test.YtpbpnkklnbmkeaaGrowC
import Derived.Deep.RegionHeld3
namespace Go.Proofs.Ytpbpnkklnbmkeaa
open Go.RowKit Go.Maps

theorem lblCan_r (d : LblD) (r : Bool) (w : World) (h : lblK d = r) :
    Calls Try.prog 29 #[lbv d] w fun e w' => e = .returned (.bool r) ∧ Bel w w' := h ▸ lblCan_any d w
theorem l8Ok_r (d : LblD) (r : Bool) (w : World) (h : lblK d = r) :
    Calls Try.prog 83 #[lbv d] w fun e w' => e = .returned (.bool r) ∧ Bel w w' := h ▸ l8Ok_any d w

/-- The world with two labels in boxes. -/
def bxL (w : World) (d e : LblD) : World := (w.alloc (.cells #[.int .i64 d.id, .int .i64 d.x, .int .i64 d.y, .int .i64 d.wd, .int .i64 d.ht, .int .i64 d.rk] 33)).alloc (.cells #[.int .i64 e.id, .int .i64 e.x, .int .i64 e.y, .int .i64 e.wd, .int .i64 e.ht, .int .i64 e.rk] 33)
theorem bxL_bel (w : World) (d e : LblD) : Bel w (bxL w d e) := bel_alloc (bel_alloc (Bel.refl _) _) _
theorem bxL_at (w : World) (d e : LblD) : Blk (bxL w d e) w.heap.size (lblCs d) ∧ Blk (bxL w d e) (w.heap.size + 1) (lblCs e) :=
  ⟨(Blk.new w (lblCs d) 33).bel (bel_alloc (Bel.refl _) _), Blk.new1 w _ (lblCs e) 33⟩
theorem bxL_cells (w : World) (d e : LblD) : ∀ w', Bel (bxL w d e) w' → (w'.cell? ⟨w.heap.size, 0, none⟩ = some (.int .i64 d.id) ∧ w'.cell? ⟨w.heap.size, 1, none⟩ = some (.int .i64 d.x) ∧ w'.cell? ⟨w.heap.size, 2, none⟩ = some (.int .i64 d.y) ∧ w'.cell? ⟨w.heap.size, 3, none⟩ = some (.int .i64 d.wd) ∧ w'.cell? ⟨w.heap.size, 4, none⟩ = some (.int .i64 d.ht) ∧ w'.cell? ⟨w.heap.size, 5, none⟩ = some (.int .i64 d.rk)) ∧
    (w'.cell? ⟨w.heap.size + 1, 0, none⟩ = some (.int .i64 e.id) ∧ w'.cell? ⟨w.heap.size + 1, 1, none⟩ = some (.int .i64 e.x) ∧ w'.cell? ⟨w.heap.size + 1, 2, none⟩ = some (.int .i64 e.y) ∧ w'.cell? ⟨w.heap.size + 1, 3, none⟩ = some (.int .i64 e.wd) ∧ w'.cell? ⟨w.heap.size + 1, 4, none⟩ = some (.int .i64 e.ht) ∧ w'.cell? ⟨w.heap.size + 1, 5, none⟩ = some (.int .i64 e.rk)) := fun w' h => by
  obtain ⟨A, B⟩ := bxL_at w d e
  have A := A.bel h
  have B := B.bel h
  exact ⟨⟨A.cell 0 (by simp [lblCs]), A.cell 1 (by simp [lblCs]), A.cell 2 (by simp [lblCs]), A.cell 3 (by simp [lblCs]), A.cell 4 (by simp [lblCs]), A.cell 5 (by simp [lblCs])⟩, B.cell 0 (by simp [lblCs]), B.cell 1 (by simp [lblCs]), B.cell 2 (by simp [lblCs]), B.cell 3 (by simp [lblCs]), B.cell 4 (by simp [lblCs]), B.cell 5 (by simp [lblCs])⟩

def ovQ (d e : LblD) : Bool := lblK d && (lblK e && ovB d e)
set_option maxRecDepth 100000 in
set_option maxHeartbeats 2000000 in
theorem overlap_any (d e : LblD) (w : World) :
    Calls Try.prog 14 #[lbv d, lbv e] w fun r w' => r = .returned (.bool (ovQ d e)) ∧ Bel w w' := by
  have hR := bxL_cells w d e
  have g0 : Bel (bxL w d e) (bxL w d e) := Bel.refl _
  have hB := bxL_bel w d e
  rcases Bool.eq_false_or_eq_true (lblK d) with k0 | k0
  · rcases Bool.eq_false_or_eq_true (lblK e) with k1 | k1
    · obtain ⟨r, Hr⟩ : ∃ r, Hid (ovB d e = r) := ⟨_, (rfl : ovB d e = _)⟩
      have hv : ovQ d e = r := by rw [← Hr.out]; simp [ovQ, k0, k1]
      have hm : bmB d.x d.y (d.x + d.wd - 1) (d.y + d.ht - 1) e.x e.y (e.x + e.wd - 1) (e.y + e.ht - 1) = r := by rw [bmB_ov]; exact Hr.out
      have cM := fun W : World => bm_any d.x d.y (d.x + d.wd - 1) (d.y + d.ht - 1) e.x e.y (e.x + e.wd - 1) (e.y + e.ht - 1) r W hm
      rw [hv]; clear hv hm Hr
      go_enter Try.func14, Try.ntmps14
      go_wp2
      refine wp_region_noPanic ?_
      refine wp_region_held_drew (S := fun w' => Bel (bxL w d e) w') (by kernel_rfl) (Bel.drew g0) (fun hHeld => ?_)
      refine tk 0 hHeld ?_
      refine rd1 1 (fun K hK => ?_)
      go_simp
      refine (lblCan_r d true _ k0).mono ?_
      rintro e w1 ⟨rfl, hbk⟩
      go_wp2_with fail
      refine hK.out _ _ (bel_step hHeld hbk) (fun hHeld' => ?_)
      clear hK K hHeld
      have hHeld := hHeld'
      clear hHeld'
      try simp only [Act.put, List.setIfInBounds_toArray, List.set_cons_zero, List.set_cons_succ]
      refine tk 2 hHeld ?_; refine tk 3 hHeld ?_
      refine rd1 4 (fun K hK => ?_)
      go_simp
      refine (lblCan_r e true _ k1).mono ?_
      rintro e w2 ⟨rfl, hbk⟩
      go_wp2_with fail
      refine hK.out _ _ (bel_step hHeld hbk) (fun hHeld' => ?_)
      clear hK K hHeld
      have hHeld := hHeld'
      clear hHeld'
      try simp only [Act.put, List.setIfInBounds_toArray, List.set_cons_zero, List.set_cons_succ]
      refine tk 5 hHeld ?_; refine tk 6 hHeld ?_; refine tk 7 hHeld ?_; refine tk 9 hHeld ?_
      refine rd1 8 (fun K hK => ?_)
      go_simp
      refine (room_any d _ k0).mono ?_
      rintro e w3 ⟨rfl, hbk⟩
      go_wp2_with fail
      refine hK.out _ _ (bel_step hHeld hbk) (fun hHeld' => ?_)
      clear hK K hHeld
      have hHeld := hHeld'
      clear hHeld'
      try simp only [Act.put, List.setIfInBounds_toArray, List.set_cons_zero, List.set_cons_succ]
      refine rd1 10 (fun K hK => ?_)
      go_simp
      refine (room_any e _ k1).mono ?_
      rintro e w4 ⟨rfl, hbk⟩
      go_wp2_with fail
      refine hK.out _ _ (bel_step hHeld hbk) (fun hHeld' => ?_)
      clear hK K hHeld
      have hHeld := hHeld'
      clear hHeld'
      try simp only [Act.put, List.setIfInBounds_toArray, List.set_cons_zero, List.set_cons_succ]
      refine rd1 11 (fun K hK => ?_)
      go_simp
      refine (cM _).mono ?_
      rintro e w5 ⟨rfl, hbk⟩
      go_wp2_with fail
      refine hK.out _ _ (bel_step hHeld hbk) (fun hHeld' => ?_)
      clear hK K hHeld
      have hHeld := hHeld'
      clear hHeld'
      try simp only [Act.put, List.setIfInBounds_toArray, List.set_cons_zero, List.set_cons_succ]
      refine tk 12 hHeld ?_; refine tk 13 hHeld ?_
      refine wpAnyH_done (by kernel_rfl) ?_ _
      refine NoPanic.normal ?_
      go_wp2
      go_ret
      exact ⟨rfl, bel_step hB hHeld⟩
    · have hv : ovQ d e = false := by simp [ovQ, k0, k1]
      rw [hv]; clear hv
      go_enter Try.func14, Try.ntmps14
      go_wp2
      refine wp_region_noPanic ?_
      refine wp_region_held_drew (S := fun w' => Bel (bxL w d e) w') (by kernel_rfl) (Bel.drew g0) (fun hHeld => ?_)
      refine tk 0 hHeld ?_
      refine rd1 1 (fun K hK => ?_)
      go_simp
      refine (lblCan_r d true _ k0).mono ?_
      rintro e w1 ⟨rfl, hbk⟩
      go_wp2_with fail
      refine hK.out _ _ (bel_step hHeld hbk) (fun hHeld' => ?_)
      clear hK K hHeld
      have hHeld := hHeld'
      clear hHeld'
      try simp only [Act.put, List.setIfInBounds_toArray, List.set_cons_zero, List.set_cons_succ]
      refine tk 2 hHeld ?_; refine tk 3 hHeld ?_
      refine rd1 4 (fun K hK => ?_)
      go_simp
      refine (lblCan_r e false _ k1).mono ?_
      rintro e w2 ⟨rfl, hbk⟩
      go_wp2_with fail
      refine hK.out _ _ (bel_step hHeld hbk) (fun hHeld' => ?_)
      clear hK K hHeld
      have hHeld := hHeld'
      clear hHeld'
      try simp only [Act.put, List.setIfInBounds_toArray, List.set_cons_zero, List.set_cons_succ]
      refine tk 5 hHeld ?_; refine tk 6 hHeld ?_; refine sk 7 hHeld ?_; refine sk 8 hHeld ?_; refine sk 9 hHeld ?_; refine sk 10 hHeld ?_
      refine sk 11 hHeld ?_; refine tk 12 hHeld ?_; refine tk 13 hHeld ?_
      refine wpAnyH_done (by kernel_rfl) ?_ _
      refine NoPanic.normal ?_
      go_wp2
      go_ret
      exact ⟨rfl, bel_step hB hHeld⟩
  · have hv : ovQ d e = false := by simp [ovQ, k0]
    rw [hv]; clear hv
    go_enter Try.func14, Try.ntmps14
    go_wp2
    refine wp_region_noPanic ?_
    refine wp_region_held_drew (S := fun w' => Bel (bxL w d e) w') (by kernel_rfl) (Bel.drew g0) (fun hHeld => ?_)
    refine tk 0 hHeld ?_
    refine rd1 1 (fun K hK => ?_)
    go_simp
    refine (lblCan_r d false _ k0).mono ?_
    rintro e w1 ⟨rfl, hbk⟩
    go_wp2_with fail
    refine hK.out _ _ (bel_step hHeld hbk) (fun hHeld' => ?_)
    clear hK K hHeld
    have hHeld := hHeld'
    clear hHeld'
    try simp only [Act.put, List.setIfInBounds_toArray, List.set_cons_zero, List.set_cons_succ]
    refine tk 2 hHeld ?_; refine sk 3 hHeld ?_; refine sk 4 hHeld ?_; refine tk 5 hHeld ?_; refine tk 6 hHeld ?_; refine sk 7 hHeld ?_
    refine sk 8 hHeld ?_; refine sk 9 hHeld ?_; refine sk 10 hHeld ?_; refine sk 11 hHeld ?_; refine tk 12 hHeld ?_
    refine tk 13 hHeld ?_
    refine wpAnyH_done (by kernel_rfl) ?_ _
    refine NoPanic.normal ?_
    go_wp2
    go_ret
    exact ⟨rfl, bel_step hB hHeld⟩
end Go.Proofs.Ytpbpnkklnbmkeaa

