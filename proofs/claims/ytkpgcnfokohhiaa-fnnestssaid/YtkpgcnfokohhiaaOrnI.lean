/-
  Contract of Orient in the program: for all rings.
-/
import Derived.Test.YtkpgcnfokohhiaaOrnC
import Derived.Test.YtkpgcnfokohhiaaRngC
namespace Go.Proofs.Ytkpgcnfokohhiaa
open Go.RowKit Go.Maps

theorem twiceL_any (a : Option Addr) (n c : Nat) (l : List PtD) (bs : List Nat) (w : World) (hT : PtL w a l bs) (hn : l.length = n) (hm : n ≤ 1048576) (hr : rwB l = true) :
    Calls Try.prog 37 #[.slice a n c] w fun e w' => e = .returned (.int .i64 (twL l)) ∧ Bel w w' := by
  subst hn
  have e : twOf l.length (lx l) (ly l) = twL l := by unfold twOf twL; rw [show rowB l.length (lx l) (ly l) = true from hr]; rfl
  rw [← e]
  exact twice_any _ _ _ _ _ _ hT.pts hm

set_option maxRecDepth 100000 in
set_option maxHeartbeats 2000000 in
theorem oriented_any (a : Option Addr) (n c : Nat) (i : Bool) (l : List PtD) (bs : List Nat) (w : World) (hT : PtL w a l bs) (hn : l.length = n) (hm : n ≤ 1048576) (hr : rwB l = true) :
    Calls Try.prog 26 #[.agg #[.slice a n c, .bool i]] w fun e w' => ∃ a' c' bs', e = .returned (.agg #[.slice a' n c', .bool i]) ∧ PtL w' a' (ornR ⟨l, i⟩).row bs' ∧ Fresh w w' bs' ∧ Bel w w' := by
  have Hn : Hid (l.length = n) := hn
  obtain ⟨W, HW⟩ : ∃ W, Hid (W = (w.alloc (.cells #[.slice a n c, .bool i] 32)).alloc (.cells #[.slice none 0 0, .bool false] 32)) := ⟨_, (rfl : (w.alloc (.cells #[.slice a n c, .bool i] 32)).alloc (.cells #[.slice none 0 0, .bool false] 32) = _)⟩
  have hBW : Bel w W := by rw [HW.out]; exact bel_alloc (bel_alloc (Bel.refl _) _) _
  have hWs : W.heap.size = w.heap.size + 1 + 1 := by rw [HW.out]; simp
  have X0 : Blk W w.heap.size [.slice a n c, .bool i] := by rw [HW.out]; exact (Blk.new w [.slice a n c, .bool i] _).bel (bel_alloc (Bel.refl _) _)
  have X1 : Blk W (w.heap.size + 1) [.slice none 0 0, .bool false] := by rw [HW.out]; exact Blk.new1 w _ [.slice none 0 0, .bool false] _
  have hTW := hT.bel ptE hBW
  clear hT hn
  go_enter Try.func26, Try.ntmps26
  go_wp2_with fail
  rw [← HW.out]
  refine (freshPt_any _ _ _ l bs W _ (Bel.refl _) hTW Hn.out hm).mono ?_
  rintro e w1 ⟨a1, c1, b1, rfl, T1, F1, hb1⟩
  have HF1 : Hid (∀ x ∈ b1, W.heap.size ≤ x ∧ x < w1.heap.size) := F1.new
  go_wp2_with fail
  refine (twiceL_any _ _ _ l b1 _ T1 Hn.out hm hr).mono ?_
  rintro e w2 ⟨rfl, hb2⟩
  have T2 := T1.bel ptE hb2
  have F2 := F1.bel hb2
  have hB2 := bel_step hb1 hb2
  have Y0 := X0.bel hB2
  have Y1 := X1.bel hB2
  obtain ⟨t, Ht⟩ : ∃ t, Hid (twL l = t) := ⟨_, (rfl : twL l = _)⟩
  rw [Ht.out]
  obtain ⟨r, Hr⟩ : ∃ r, Hid (wrong ⟨l, i⟩ = r) := ⟨_, (rfl : wrong ⟨l, i⟩ = _)⟩
  have HRE : Hid (r = ((decide (0 < t) && i) || (decide (t < 0) && !i))) := by rw [← Hr.out, ← Ht.out]; exact rfl
  have c01 : w2.cell? ⟨w.heap.size, 1, none⟩ = some (.bool i) := Y0.cell 1 (by simp)
  clear T1 F1 hTW X0 X1 HW hb1 hb2
  go_upto_region 3 with fail
  go_cut [24] (fun v wx => v = .bool r ∧ wx = w2)
  case first =>
    by_cases h1 : 0 < t
    · cases i
      · go_wp2
        go_meet
        case rel => exact ⟨congrArg Value.bool (by rw [HRE.out]; simp; omega), rfl⟩
      · go_wp2
        go_meet
        case rel => exact ⟨congrArg Value.bool (by rw [HRE.out]; simp [h1]), rfl⟩
    · by_cases h2 : t < 0
      · cases i
        · go_wp2
          go_meet
          case rel => exact ⟨congrArg Value.bool (by rw [HRE.out]; simp [h2]), rfl⟩
        · go_wp2
          go_meet
          case rel => exact ⟨congrArg Value.bool (by rw [HRE.out]; simp; omega), rfl⟩
      · go_wp2
        go_meet
        case rel => exact ⟨congrArg Value.bool (by rw [HRE.out]; simp; omega), rfl⟩
  case rest =>
    obtain ⟨rfl, hwc⟩ := hcut
    subst hwc
    clear c01
    have hN0 : w.heap.size ∉ b1 := fun h => by have := (HF1.out _ h).1; omega
    have hN1 : w.heap.size + 1 ∉ b1 := fun h => by have := (HF1.out _ h).1; omega
    cases r
    · have HE : Hid ((ornR ⟨l, i⟩).row = l) := (by unfold ornR; rw [Hr.out]; rfl : (ornR ⟨l, i⟩).row = l)
      have Z0 := Y0
      have Z1 := Y1
      have hfr := F2.free
      have hBwW : Bel w wc := bel_step hBW hB2
      have c0 : wc.cell? ⟨w.heap.size, 1, none⟩ = some (.bool i) := Z0.cell 1 (by simp)
      have c1' : wc.cell? ⟨w.heap.size + 1, 0, none⟩ = some (.slice none 0 0) := Z1.cell 0 (by simp)
      have c2 : wc.cell? ⟨w.heap.size + 1, 1, none⟩ = some (.bool false) := Z1.cell 1 (by simp)
      have q0 := Z1.free 0
      have q1 := Z1.free 1
      obtain ⟨F, HF⟩ : ∃ F, Hid (F = setRow wc (w.heap.size + 1) 0 [.slice a1 n c1, .bool i]) := ⟨_, (rfl : setRow wc (w.heap.size + 1) 0 [.slice a1 n c1, .bool i] = _)⟩
      have hAl : Alike wc F b1 := by rw [HF.out]; exact setRow_alike _ (T2.lt ptE) hN1
      have HT : Hid (PtL F a1 (ornR ⟨l, i⟩).row b1) := by rw [HE.out]; exact T2.alike ptE hAl
      have HFr : Hid (Fresh w F b1) := (⟨F2.nd, fun b hm => ⟨Nat.le_trans hBW.out.size (F2.new b hm).1, (hAl b hm).1⟩, fun b hm j => by rw [(hAl b hm).2.2 j]; exact hfr b hm j⟩ : Fresh w F b1)
      have hBF : Bel w F := by rw [HF.out]; exact setRow_bel hBwW (Nat.le_succ _) _ _
      have hin := setRow_in (w.heap.size + 1) [.slice a1 n c1, .bool i] wc 0 (fun j hj => by
        match j, hj with
        | 0, _ => exact ⟨_, c1'⟩
        | 1, _ => exact ⟨_, c2⟩)
      have r0 : F.cell? ⟨w.heap.size + 1, 0, none⟩ = some (.slice a1 n c1) := by rw [HF.out]; exact hin 0 (by simp)
      have r1 : F.cell? ⟨w.heap.size + 1, 1, none⟩ = some (.bool i) := by rw [HF.out]; exact hin 1 (by simp)
      have HFE : Hid (F = (wc.setCell ⟨w.heap.size + 1, 0, none⟩ (.slice a1 n c1)).setCell ⟨w.heap.size + 1, 1, none⟩ (.bool i)) := HF.out
      clear T2 F2 hAl hin
      go_wp2
      rw [← HFE.out]
      refine bodyPost_ret (v := .agg #[.slice a1 n c1, .bool i]) (by simp [results, Try.results26, go_sem, r0, r1]) rfl ?_
      exact ⟨a1, c1, b1, rfl, HT.out, HFr.out, hBF⟩
    · have HE : Hid ((ornR ⟨l, i⟩).row = l.reverse) := (by unfold ornR; rw [Hr.out]; rfl : (ornR ⟨l, i⟩).row = l.reverse)
      go_wp2_with fail
      refine (reverse_any _ _ _ l b1 _ T2 F2.free Hn.out hm).mono ?_
      rintro e w3 ⟨rfl, T3, hfr, O3⟩
      have Z0 : Blk w3 w.heap.size [.slice a n c, .bool i] := ⟨Nat.lt_of_lt_of_le Y0.lt O3.size, fun j hj => by rw [O3.cell Y0.lt hN0]; exact Y0.cell j hj, fun j => by rw [O3.frozen Y0.lt hN0]; exact Y0.free j⟩
      have Z1 : Blk w3 (w.heap.size + 1) [.slice none 0 0, .bool false] := ⟨Nat.lt_of_lt_of_le Y1.lt O3.size, fun j hj => by rw [O3.cell Y1.lt hN1]; exact Y1.cell j hj, fun j => by rw [O3.frozen Y1.lt hN1]; exact Y1.free j⟩
      have hBwW : Bel w w3 := Onl.to_bel (bel_step hBW hB2) O3 (fun x hx => Nat.le_trans hBW.out.size (HF1.out x hx).1)
      clear T2 O3 Y0 Y1
      have c0 : w3.cell? ⟨w.heap.size, 1, none⟩ = some (.bool i) := Z0.cell 1 (by simp)
      have c1' : w3.cell? ⟨w.heap.size + 1, 0, none⟩ = some (.slice none 0 0) := Z1.cell 0 (by simp)
      have c2 : w3.cell? ⟨w.heap.size + 1, 1, none⟩ = some (.bool false) := Z1.cell 1 (by simp)
      have q0 := Z1.free 0
      have q1 := Z1.free 1
      obtain ⟨F, HF⟩ : ∃ F, Hid (F = setRow w3 (w.heap.size + 1) 0 [.slice a1 n c1, .bool i]) := ⟨_, (rfl : setRow w3 (w.heap.size + 1) 0 [.slice a1 n c1, .bool i] = _)⟩
      have hAl : Alike w3 F b1 := by rw [HF.out]; exact setRow_alike _ (T3.lt ptE) hN1
      have HT : Hid (PtL F a1 (ornR ⟨l, i⟩).row b1) := by rw [HE.out]; exact T3.alike ptE hAl
      have HFr : Hid (Fresh w F b1) := (⟨F2.nd, fun b hm => ⟨Nat.le_trans hBW.out.size (F2.new b hm).1, (hAl b hm).1⟩, fun b hm j => by rw [(hAl b hm).2.2 j]; exact hfr b hm j⟩ : Fresh w F b1)
      have hBF : Bel w F := by rw [HF.out]; exact setRow_bel hBwW (Nat.le_succ _) _ _
      have hin := setRow_in (w.heap.size + 1) [.slice a1 n c1, .bool i] w3 0 (fun j hj => by
        match j, hj with
        | 0, _ => exact ⟨_, c1'⟩
        | 1, _ => exact ⟨_, c2⟩)
      have r0 : F.cell? ⟨w.heap.size + 1, 0, none⟩ = some (.slice a1 n c1) := by rw [HF.out]; exact hin 0 (by simp)
      have r1 : F.cell? ⟨w.heap.size + 1, 1, none⟩ = some (.bool i) := by rw [HF.out]; exact hin 1 (by simp)
      have HFE : Hid (F = (w3.setCell ⟨w.heap.size + 1, 0, none⟩ (.slice a1 n c1)).setCell ⟨w.heap.size + 1, 1, none⟩ (.bool i)) := HF.out
      clear T3 F2 hAl hin
      go_wp2
      rw [← HFE.out]
      refine bodyPost_ret (v := .agg #[.slice a1 n c1, .bool i]) (by simp [results, Try.results26, go_sem, r0, r1]) rfl ?_
      exact ⟨a1, c1, b1, rfl, HT.out, HFr.out, hBF⟩
end Go.Proofs.Ytkpgcnfokohhiaa
