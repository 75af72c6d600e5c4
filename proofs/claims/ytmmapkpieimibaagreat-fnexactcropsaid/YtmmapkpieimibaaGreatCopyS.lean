/-
  The model's copies of a node, a way, an area, with lists of their own: contracts.
-/
import Derived.Test.YtmmapkpieimibaaGreatCopyC
namespace Go.Proofs.YtmmapkpieimibaaGreat
open Go.RowKit Go.Maps


set_option maxRecDepth 100000 in
set_option maxHeartbeats 2000000 in
theorem l2CopyNode_any (id x y : Int) (a : Option Addr) (n c : Nat) (l : List TagD) (bs : List Nat) (W0 w : World) (h0W : Bel W0 w) (hT : Tags w a l bs) (hn : l.length = n) (hm : n ≤ 1048576) :
    Calls Tryz.prog 25 #[.agg #[.int .i64 id, .int .i64 x, .int .i64 y, .slice a n c]] w fun e w' => ∃ a' c' bs', e = .returned (.agg #[.int .i64 id, .int .i64 x, .int .i64 y, .slice a' n c']) ∧ Tags w' a' l bs' ∧ Fresh W0 w' bs' ∧ Bel w w' := by
  obtain ⟨i0, hi0, hz0, hz1, hz2⟩ := info_parts infoCTag
  have hBL : Bel w ((w.alloc (.cells #[.int .i64 id, .int .i64 x, .int .i64 y, .slice a n c] 58)).alloc (.cells #[.int .i64 0, .int .i64 0, .int .i64 0, .slice none 0 0] 58)) := bel_alloc (bel_alloc (Bel.refl _) _) _
  have hsL : ((w.alloc (.cells #[.int .i64 id, .int .i64 x, .int .i64 y, .slice a n c] 58)).alloc (.cells #[.int .i64 0, .int .i64 0, .int .i64 0, .slice none 0 0] 58)).heap.size = w.heap.size + 1 + 1 := by simp
  have X0 : Blk ((w.alloc (.cells #[.int .i64 id, .int .i64 x, .int .i64 y, .slice a n c] 58)).alloc (.cells #[.int .i64 0, .int .i64 0, .int .i64 0, .slice none 0 0] 58)) w.heap.size [.int .i64 id, .int .i64 x, .int .i64 y, .slice a n c] := (Blk.new w [.int .i64 id, .int .i64 x, .int .i64 y, .slice a n c] _).bel (bel_alloc (Bel.refl _) _)
  have X1 : Blk ((w.alloc (.cells #[.int .i64 id, .int .i64 x, .int .i64 y, .slice a n c] 58)).alloc (.cells #[.int .i64 0, .int .i64 0, .int .i64 0, .slice none 0 0] 58)) (w.heap.size + 1) [.int .i64 0, .int .i64 0, .int .i64 0, .slice none 0 0] := Blk.new1 w _ [.int .i64 0, .int .i64 0, .int .i64 0, .slice none 0 0] _
  have hown0 : (((w.alloc (.cells #[.int .i64 id, .int .i64 x, .int .i64 y, .slice a n c] 58)).alloc (.cells #[.int .i64 0, .int .i64 0, .int .i64 0, .slice none 0 0] 58)).alloc (.cells #[] 173)).ownsRow (w.heap.size + 1 + 1) 173 2 (.slice (some ⟨w.heap.size + 1 + 1, 0, none⟩) 0 0) 0 [] := by
    have := World.ownsRow_lit (base := w.heap.size + 1 + 1) (e := 173) (size := 2) ((w.alloc (.cells #[.int .i64 id, .int .i64 x, .int .i64 y, .slice a n c] 58)).alloc (.cells #[.int .i64 0, .int .i64 0, .int .i64 0, .slice none 0 0] 58)) #[] 0 (Nat.le_of_eq hsL.symm) (Nat.zero_le _) rfl
    rw [hsL] at this
    exact this
  have hT3 := hT.bel tagE (bel_alloc hBL (.cells #[] 173))
  clear hT
  go_enter Tryz.func25, Tryz.ntmps25
  go_wp2_with (first
    | (at_builtin; refine wpList_append_flat tagF (by decide) rfl _ _ 56 rfl (w.heap.size + 1 + 1) 173 i0 (.agg #[.string ⟨#[]⟩, .string ⟨#[]⟩]) 32 Tryz.underlying56 hi0 hz0 hz1 hz2 rfl _ rfl hown0 a n c l bs rfl hT3 hn hm (by decide) (by simp) ?_)
    | go_in)
  intro a' c' bs' w4 HS HM hgrow
  have hB4 : Bel ((w.alloc (.cells #[.int .i64 id, .int .i64 x, .int .i64 y, .slice a n c] 58)).alloc (.cells #[.int .i64 0, .int .i64 0, .int .i64 0, .slice none 0 0] 58)) w4 := bel_grow (bel_alloc (Bel.refl _) _) hgrow (fun j e => by rw [hsL]; exact Nat.le_of_eq (Option.some.inj e))
  have Y0 := X0.bel hB4
  have Y1 := X1.bel hB4
  have b0 : w4.cell? ⟨w.heap.size, 0, none⟩ = some (.int .i64 id) := Y0.cell 0 (by simp)
  have b1 : w4.cell? ⟨w.heap.size, 1, none⟩ = some (.int .i64 x) := Y0.cell 1 (by simp)
  have b2 : w4.cell? ⟨w.heap.size, 2, none⟩ = some (.int .i64 y) := Y0.cell 2 (by simp)
  have b3 : w4.cell? ⟨w.heap.size, 3, none⟩ = some (.slice a n c) := Y0.cell 3 (by simp)
  have p3 := Y0.free 3
  have r0 : w4.cell? ⟨w.heap.size + 1, 0, none⟩ = some (.int .i64 0) := Y1.cell 0 (by simp)
  have r1 : w4.cell? ⟨w.heap.size + 1, 1, none⟩ = some (.int .i64 0) := Y1.cell 1 (by simp)
  have r2 : w4.cell? ⟨w.heap.size + 1, 2, none⟩ = some (.int .i64 0) := Y1.cell 2 (by simp)
  have r3 : w4.cell? ⟨w.heap.size + 1, 3, none⟩ = some (.slice none 0 0) := Y1.cell 3 (by simp)
  have q0 := Y1.free 0
  have q1 := Y1.free 1
  have q2 := Y1.free 2
  have q3 := Y1.free 3
  have hN0 : w.heap.size ∉ bs' := fun h => by have := (HM.new _ h).1; omega
  have hN1 : w.heap.size + 1 ∉ bs' := fun h => by have := (HM.new _ h).1; omega
  obtain ⟨F, HFW⟩ : ∃ F, Hid (F = setRow (w4.setCell ⟨w.heap.size, 3, none⟩ (.slice a' n c')) (w.heap.size + 1) 0 [.int .i64 id, .int .i64 x, .int .i64 y, .slice a' n c']) := ⟨_, (rfl : setRow (w4.setCell ⟨w.heap.size, 3, none⟩ (.slice a' n c')) (w.heap.size + 1) 0 [.int .i64 id, .int .i64 x, .int .i64 y, .slice a' n c'] = _)⟩
  have hAl : Alike w4 F bs' := by rw [HFW.out]; exact (((((Alike.refl (HS.lt tagE)).set hN0 3 _).set hN1 0 _).set hN1 1 _).set hN1 2 _).set hN1 3 _
  have HT : Hid (Tags F a' l bs') := HS.alike tagE hAl
  have HF : Hid (Fresh W0 F bs') := (HM.alike hAl).fresh (Nat.le_trans h0W.out.size (by omega))
  have hB : Hid (Bel w F) := by rw [HFW.out]; exact setRow_bel (bel_set (bel_step hBL hB4) (Nat.le_refl _) _) (Nat.le_succ _) _ _
  clear hgrow HS HM hAl X0 X1 Y0 Y1 hT3 hown0 hB4 hBL hsL
  go_wp2
  exact bodyPost_ret (v := .agg #[.int .i64 id, .int .i64 x, .int .i64 y, .slice a' n c']) (by simp [results, Tryz.results25, go_sem, r0, r1, r2, r3]) rfl ⟨_, _, bs', rfl, by rw [HFW.out] at HT; exact HT.out, by rw [HFW.out] at HF; exact HF.out, by rw [HFW.out] at hB; exact hB.out⟩


set_option maxRecDepth 100000 in
set_option maxHeartbeats 4000000 in
theorem l2CopyWay_any (id : Int) (a : Option Addr) (n c : Nat) (l : List TagD) (bs : List Nat) (a2 : Option Addr) (n2 c2 : Nat) (l2 : List Int) (bs2 : List Nat) (W0 w : World) (h0W : Bel W0 w) (hT : Tags w a l bs) (hn : l.length = n) (hm : n ≤ 1048576) (hT2 : Ints w a2 l2 bs2) (hn2 : l2.length = n2) (hm2 : n2 ≤ 1048576) :
    Calls Tryz.prog 24 #[.agg #[.int .i64 id, .slice a2 n2 c2, .slice a n c]] w fun e w' => ∃ a3 c3 b3 a4 c4 b4, e = .returned (.agg #[.int .i64 id, .slice a3 n2 c3, .slice a4 n c4]) ∧ Ints w' a3 l2 b3 ∧ Tags w' a4 l b4 ∧ Fresh W0 w' (b3 ++ b4) ∧ Bel w w' := by
  obtain ⟨i0, hi0, hz0, hz1, hz2⟩ := info_parts infoCTag
  obtain ⟨i1, hi1, hz10, hz11, hz12⟩ := info_parts infoCInt
  have hBL : Bel w ((w.alloc (.cells #[.int .i64 id, .slice a2 n2 c2, .slice a n c] 62)).alloc (.cells #[.int .i64 0, .slice none 0 0, .slice none 0 0] 62)) := bel_alloc (bel_alloc (Bel.refl _) _) _
  have hsL : ((w.alloc (.cells #[.int .i64 id, .slice a2 n2 c2, .slice a n c] 62)).alloc (.cells #[.int .i64 0, .slice none 0 0, .slice none 0 0] 62)).heap.size = w.heap.size + 1 + 1 := by simp
  have X0 : Blk ((w.alloc (.cells #[.int .i64 id, .slice a2 n2 c2, .slice a n c] 62)).alloc (.cells #[.int .i64 0, .slice none 0 0, .slice none 0 0] 62)) w.heap.size [.int .i64 id, .slice a2 n2 c2, .slice a n c] := (Blk.new w [.int .i64 id, .slice a2 n2 c2, .slice a n c] _).bel (bel_alloc (Bel.refl _) _)
  have X1 : Blk ((w.alloc (.cells #[.int .i64 id, .slice a2 n2 c2, .slice a n c] 62)).alloc (.cells #[.int .i64 0, .slice none 0 0, .slice none 0 0] 62)) (w.heap.size + 1) [.int .i64 0, .slice none 0 0, .slice none 0 0] := Blk.new1 w _ [.int .i64 0, .slice none 0 0, .slice none 0 0] _
  have hown0 : (((w.alloc (.cells #[.int .i64 id, .slice a2 n2 c2, .slice a n c] 62)).alloc (.cells #[.int .i64 0, .slice none 0 0, .slice none 0 0] 62)).alloc (.cells #[] 2)).ownsRow (w.heap.size + 1 + 1) 2 1 (.slice (some ⟨w.heap.size + 1 + 1, 0, none⟩) 0 0) 0 [] := by
    have := World.ownsRow_lit (base := w.heap.size + 1 + 1) (e := 2) (size := 1) ((w.alloc (.cells #[.int .i64 id, .slice a2 n2 c2, .slice a n c] 62)).alloc (.cells #[.int .i64 0, .slice none 0 0, .slice none 0 0] 62)) #[] 0 (Nat.le_of_eq hsL.symm) (Nat.zero_le _) rfl
    rw [hsL] at this
    exact this
  have hT3 := hT2.bel intE (bel_alloc hBL (.cells #[] 2))
  clear hT2
  go_enter Tryz.func24, Tryz.ntmps24
  go_wp2_with (first
    | (at_builtin; refine wpList_append_flat intF (by decide) rfl _ _ 60 rfl (w.heap.size + 1 + 1) 2 i1 (.int .i64 0) 8 Tryz.underlying60 hi1 hz10 hz11 hz12 rfl _ rfl hown0 a2 n2 c2 l2 bs2 rfl hT3 hn2 hm2 (by decide) (by simp) ?_)
    | go_in)
  intro a3 c3 b3 w4 HS3 HM3 hgrow
  have hB4 : Bel ((w.alloc (.cells #[.int .i64 id, .slice a2 n2 c2, .slice a n c] 62)).alloc (.cells #[.int .i64 0, .slice none 0 0, .slice none 0 0] 62)) w4 := bel_grow (bel_alloc (Bel.refl _) _) hgrow (fun j e => by rw [hsL]; exact Nat.le_of_eq (Option.some.inj e))
  have Y0 := X0.bel hB4
  have Y1 := X1.bel hB4
  have b0 : w4.cell? ⟨w.heap.size, 0, none⟩ = some (.int .i64 id) := Y0.cell 0 (by simp)
  have b1 : w4.cell? ⟨w.heap.size, 1, none⟩ = some (.slice a2 n2 c2) := Y0.cell 1 (by simp)
  have b2 : w4.cell? ⟨w.heap.size, 2, none⟩ = some (.slice a n c) := Y0.cell 2 (by simp)
  have p1 := Y0.free 1
  have hN0 : w.heap.size ∉ b3 := fun h => by have := (HM3.new _ h).1; omega
  have hN1 : w.heap.size + 1 ∉ b3 := fun h => by have := (HM3.new _ h).1; omega
  obtain ⟨V, HV⟩ : ∃ V, Hid (V = w4.setCell ⟨w.heap.size, 1, none⟩ (.slice a3 n2 c3)) := ⟨_, (rfl : w4.setCell ⟨w.heap.size, 1, none⟩ (.slice a3 n2 c3) = _)⟩
  have Z0 : Blk V w.heap.size [.int .i64 id, .slice a3 n2 c3, .slice a n c] := by rw [HV.out]; exact Y0.set 1 _ (by simp)
  have Z1 : Blk V (w.heap.size + 1) [.int .i64 0, .slice none 0 0, .slice none 0 0] := by rw [HV.out]; exact Y1.far (by omega)
  have hAl3 : Alike w4 V b3 := by rw [HV.out]; exact (Alike.refl (HS3.lt intE)).set hN0 1 _
  have S3 : Ints V a3 l2 b3 := HS3.alike intE hAl3
  have M3 := HM3.alike hAl3
  have hBV : Bel w V := by rw [HV.out]; exact bel_set (bel_step hBL hB4) (Nat.le_refl _) _
  have hVs : V.heap.size = w4.heap.size := by rw [HV.out]; simp [World.setCell]
  have hV2 : w.heap.size + 1 + 1 ≤ V.heap.size := by have := hB4.out.size; rw [hsL] at this; omega
  have hT4 := hT.bel tagE (bel_alloc hBV (.cells #[] 173))
  have z2 : V.cell? ⟨w.heap.size, 2, none⟩ = some (.slice a n c) := Z0.cell 2 (by simp)
  have zl0 : w.heap.size < V.heap.size := by omega
  have hown1 : (V.alloc (.cells #[] 173)).ownsRow w4.heap.size 173 2 (.slice (some ⟨w4.heap.size, 0, none⟩) 0 0) 0 [] := by
    have := World.ownsRow_lit (base := V.heap.size) (e := 173) (size := 2) V #[] 0 (Nat.le_refl _) (Nat.zero_le _) rfl
    rw [hVs] at this
    exact this
  clear hgrow HS3 HM3 hAl3 X0 X1 Y0 Y1 hT3 hown0 hB4 hBL hT hN0
  have hw4 : w.heap.size < w4.heap.size := by omega
  rw [HV.out] at hown1 hT4 z2 zl0
  go_wp2_with (first
    | (at_builtin; refine wpList_append_flat tagF (by decide) rfl _ _ 56 rfl w4.heap.size 173 i0 (.agg #[.string ⟨#[]⟩, .string ⟨#[]⟩]) 32 Tryz.underlying56 hi0 hz0 hz1 hz2 rfl _ rfl hown1 a n c l bs rfl hT4 hn hm (by decide) (by simp) ?_)
    | go_in)
  intro a4 c4 b4 w6 HS4 HM4 hgrow
  rw [← HV.out] at hgrow
  have hB6 : Bel V w6 := bel_grow (bel_alloc (Bel.refl _) _) hgrow (fun j e => by rw [hVs]; exact Nat.le_of_eq (Option.some.inj e))
  have U0 := Z0.bel hB6
  have U1 := Z1.bel hB6
  have u0 : w6.cell? ⟨w.heap.size, 0, none⟩ = some (.int .i64 id) := U0.cell 0 (by simp)
  have u1 : w6.cell? ⟨w.heap.size, 1, none⟩ = some (.slice a3 n2 c3) := U0.cell 1 (by simp)
  have u2 : w6.cell? ⟨w.heap.size, 2, none⟩ = some (.slice a n c) := U0.cell 2 (by simp)
  have o2 := U0.free 2
  have r0 : w6.cell? ⟨w.heap.size + 1, 0, none⟩ = some (.int .i64 0) := U1.cell 0 (by simp)
  have r1 : w6.cell? ⟨w.heap.size + 1, 1, none⟩ = some (.slice none 0 0) := U1.cell 1 (by simp)
  have r2 : w6.cell? ⟨w.heap.size + 1, 2, none⟩ = some (.slice none 0 0) := U1.cell 2 (by simp)
  have q0 := U1.free 0
  have q1 := U1.free 1
  have q2 := U1.free 2
  have M34 : Mine (w.heap.size + 1 + 1) w6 (b3 ++ b4) := M3.app hB6 HM4 (Nat.le_of_eq hVs) (by omega)
  have hM0 : w.heap.size ∉ b3 ++ b4 := fun h => by have := (M34.new _ h).1; omega
  have hM1 : w.heap.size + 1 ∉ b3 ++ b4 := fun h => by have := (M34.new _ h).1; omega
  obtain ⟨F, HFW⟩ : ∃ F, Hid (F = setRow (w6.setCell ⟨w.heap.size, 2, none⟩ (.slice a4 n c4)) (w.heap.size + 1) 0 [.int .i64 id, .slice a3 n2 c3, .slice a4 n c4]) := ⟨_, (rfl : setRow (w6.setCell ⟨w.heap.size, 2, none⟩ (.slice a4 n c4)) (w.heap.size + 1) 0 [.int .i64 id, .slice a3 n2 c3, .slice a4 n c4] = _)⟩
  have hAl : Alike w6 F (b3 ++ b4) := by rw [HFW.out]; exact ((((Alike.refl fun x hx => (M34.new x hx).2).set hM0 2 _).set hM1 0 _).set hM1 1 _).set hM1 2 _
  have HT3 : Hid (Ints F a3 l2 b3) := (S3.bel intE hB6).alike intE (hAl.sub fun x hx => by simp [hx])
  have HT4 : Hid (Tags F a4 l b4) := HS4.alike tagE (hAl.sub fun x hx => by simp [hx])
  have HF : Hid (Fresh W0 F (b3 ++ b4)) := (M34.alike hAl).fresh (Nat.le_trans h0W.out.size (by omega))
  have hB : Hid (Bel w F) := by rw [HFW.out]; exact setRow_bel (bel_set (bel_step hBV hB6) (Nat.le_refl _) _) (Nat.le_succ _) _ _
  clear hgrow HS4 HM4 hAl Z0 Z1 U0 U1 hT4 hown1 hB6 M34 S3 M3
  go_wp2
  exact bodyPost_ret (v := .agg #[.int .i64 id, .slice a3 n2 c3, .slice a4 n c4]) (by simp [results, Tryz.results24, go_sem, r0, r1, r2]) rfl ⟨_, _, b3, _, _, b4, rfl, by rw [HFW.out] at HT3; exact HT3.out, by rw [HFW.out] at HT4; exact HT4.out, by rw [HFW.out] at HF; exact HF.out, by rw [HFW.out] at hB; exact hB.out⟩


set_option maxRecDepth 100000 in
set_option maxHeartbeats 4000000 in
theorem l2CopyArea_any (id : Int) (a : Option Addr) (n c : Nat) (l : List TagD) (bs : List Nat) (a2 : Option Addr) (n2 c2 : Nat) (l2 : List PartD) (bs2 : List Nat) (W0 w : World) (h0W : Bel W0 w) (hT : Tags w a l bs) (hn : l.length = n) (hm : n ≤ 1048576) (hT2 : Parts w a2 l2 bs2) (hn2 : l2.length = n2) (hm2 : n2 ≤ 1048576) :
    Calls Tryz.prog 27 #[.agg #[.int .i64 id, .slice a2 n2 c2, .slice a n c]] w fun e w' => ∃ a3 c3 b3 a4 c4 b4, e = .returned (.agg #[.int .i64 id, .slice a3 n2 c3, .slice a4 n c4]) ∧ Parts w' a3 l2 b3 ∧ Tags w' a4 l b4 ∧ Fresh W0 w' (b3 ++ b4) ∧ Bel w w' := by
  obtain ⟨i0, hi0, hz0, hz1, hz2⟩ := info_parts infoCTag
  obtain ⟨i1, hi1, hz10, hz11, hz12⟩ := info_parts infoCPart
  have hBL : Bel w ((w.alloc (.cells #[.int .i64 id, .slice a2 n2 c2, .slice a n c] 68)).alloc (.cells #[.int .i64 0, .slice none 0 0, .slice none 0 0] 68)) := bel_alloc (bel_alloc (Bel.refl _) _) _
  have hsL : ((w.alloc (.cells #[.int .i64 id, .slice a2 n2 c2, .slice a n c] 68)).alloc (.cells #[.int .i64 0, .slice none 0 0, .slice none 0 0] 68)).heap.size = w.heap.size + 1 + 1 := by simp
  have X0 : Blk ((w.alloc (.cells #[.int .i64 id, .slice a2 n2 c2, .slice a n c] 68)).alloc (.cells #[.int .i64 0, .slice none 0 0, .slice none 0 0] 68)) w.heap.size [.int .i64 id, .slice a2 n2 c2, .slice a n c] := (Blk.new w [.int .i64 id, .slice a2 n2 c2, .slice a n c] _).bel (bel_alloc (Bel.refl _) _)
  have X1 : Blk ((w.alloc (.cells #[.int .i64 id, .slice a2 n2 c2, .slice a n c] 68)).alloc (.cells #[.int .i64 0, .slice none 0 0, .slice none 0 0] 68)) (w.heap.size + 1) [.int .i64 0, .slice none 0 0, .slice none 0 0] := Blk.new1 w _ [.int .i64 0, .slice none 0 0, .slice none 0 0] _
  have hown0 : (((w.alloc (.cells #[.int .i64 id, .slice a2 n2 c2, .slice a n c] 68)).alloc (.cells #[.int .i64 0, .slice none 0 0, .slice none 0 0] 68)).alloc (.cells #[] 70)).ownsRow (w.heap.size + 1 + 1) 70 2 (.slice (some ⟨w.heap.size + 1 + 1, 0, none⟩) 0 0) 0 [] := by
    have := World.ownsRow_lit (base := w.heap.size + 1 + 1) (e := 70) (size := 2) ((w.alloc (.cells #[.int .i64 id, .slice a2 n2 c2, .slice a n c] 68)).alloc (.cells #[.int .i64 0, .slice none 0 0, .slice none 0 0] 68)) #[] 0 (Nat.le_of_eq hsL.symm) (Nat.zero_le _) rfl
    rw [hsL] at this
    exact this
  have hT3 := hT2.bel partE (bel_alloc hBL (.cells #[] 70))
  clear hT2
  go_enter Tryz.func27, Tryz.ntmps27
  go_wp2_with (first
    | (at_builtin; refine wpList_append_flat partF (by decide) rfl _ _ 66 rfl (w.heap.size + 1 + 1) 70 i1 (.agg #[.int .i64 0, .bool false]) 16 Tryz.underlying66 hi1 hz10 hz11 hz12 rfl _ rfl hown0 a2 n2 c2 l2 bs2 rfl hT3 hn2 hm2 (by decide) (by simp) ?_)
    | go_in)
  intro a3 c3 b3 w4 HS3 HM3 hgrow
  have hB4 : Bel ((w.alloc (.cells #[.int .i64 id, .slice a2 n2 c2, .slice a n c] 68)).alloc (.cells #[.int .i64 0, .slice none 0 0, .slice none 0 0] 68)) w4 := bel_grow (bel_alloc (Bel.refl _) _) hgrow (fun j e => by rw [hsL]; exact Nat.le_of_eq (Option.some.inj e))
  have Y0 := X0.bel hB4
  have Y1 := X1.bel hB4
  have b0 : w4.cell? ⟨w.heap.size, 0, none⟩ = some (.int .i64 id) := Y0.cell 0 (by simp)
  have b1 : w4.cell? ⟨w.heap.size, 1, none⟩ = some (.slice a2 n2 c2) := Y0.cell 1 (by simp)
  have b2 : w4.cell? ⟨w.heap.size, 2, none⟩ = some (.slice a n c) := Y0.cell 2 (by simp)
  have p1 := Y0.free 1
  have hN0 : w.heap.size ∉ b3 := fun h => by have := (HM3.new _ h).1; omega
  have hN1 : w.heap.size + 1 ∉ b3 := fun h => by have := (HM3.new _ h).1; omega
  obtain ⟨V, HV⟩ : ∃ V, Hid (V = w4.setCell ⟨w.heap.size, 1, none⟩ (.slice a3 n2 c3)) := ⟨_, (rfl : w4.setCell ⟨w.heap.size, 1, none⟩ (.slice a3 n2 c3) = _)⟩
  have Z0 : Blk V w.heap.size [.int .i64 id, .slice a3 n2 c3, .slice a n c] := by rw [HV.out]; exact Y0.set 1 _ (by simp)
  have Z1 : Blk V (w.heap.size + 1) [.int .i64 0, .slice none 0 0, .slice none 0 0] := by rw [HV.out]; exact Y1.far (by omega)
  have hAl3 : Alike w4 V b3 := by rw [HV.out]; exact (Alike.refl (HS3.lt partE)).set hN0 1 _
  have S3 : Parts V a3 l2 b3 := HS3.alike partE hAl3
  have M3 := HM3.alike hAl3
  have hBV : Bel w V := by rw [HV.out]; exact bel_set (bel_step hBL hB4) (Nat.le_refl _) _
  have hVs : V.heap.size = w4.heap.size := by rw [HV.out]; simp [World.setCell]
  have hV2 : w.heap.size + 1 + 1 ≤ V.heap.size := by have := hB4.out.size; rw [hsL] at this; omega
  have hT4 := hT.bel tagE (bel_alloc hBV (.cells #[] 173))
  have z2 : V.cell? ⟨w.heap.size, 2, none⟩ = some (.slice a n c) := Z0.cell 2 (by simp)
  have zl0 : w.heap.size < V.heap.size := by omega
  have hown1 : (V.alloc (.cells #[] 173)).ownsRow w4.heap.size 173 2 (.slice (some ⟨w4.heap.size, 0, none⟩) 0 0) 0 [] := by
    have := World.ownsRow_lit (base := V.heap.size) (e := 173) (size := 2) V #[] 0 (Nat.le_refl _) (Nat.zero_le _) rfl
    rw [hVs] at this
    exact this
  clear hgrow HS3 HM3 hAl3 X0 X1 Y0 Y1 hT3 hown0 hB4 hBL hT hN0
  have hw4 : w.heap.size < w4.heap.size := by omega
  rw [HV.out] at hown1 hT4 z2 zl0
  go_wp2_with (first
    | (at_builtin; refine wpList_append_flat tagF (by decide) rfl _ _ 56 rfl w4.heap.size 173 i0 (.agg #[.string ⟨#[]⟩, .string ⟨#[]⟩]) 32 Tryz.underlying56 hi0 hz0 hz1 hz2 rfl _ rfl hown1 a n c l bs rfl hT4 hn hm (by decide) (by simp) ?_)
    | go_in)
  intro a4 c4 b4 w6 HS4 HM4 hgrow
  rw [← HV.out] at hgrow
  have hB6 : Bel V w6 := bel_grow (bel_alloc (Bel.refl _) _) hgrow (fun j e => by rw [hVs]; exact Nat.le_of_eq (Option.some.inj e))
  have U0 := Z0.bel hB6
  have U1 := Z1.bel hB6
  have u0 : w6.cell? ⟨w.heap.size, 0, none⟩ = some (.int .i64 id) := U0.cell 0 (by simp)
  have u1 : w6.cell? ⟨w.heap.size, 1, none⟩ = some (.slice a3 n2 c3) := U0.cell 1 (by simp)
  have u2 : w6.cell? ⟨w.heap.size, 2, none⟩ = some (.slice a n c) := U0.cell 2 (by simp)
  have o2 := U0.free 2
  have r0 : w6.cell? ⟨w.heap.size + 1, 0, none⟩ = some (.int .i64 0) := U1.cell 0 (by simp)
  have r1 : w6.cell? ⟨w.heap.size + 1, 1, none⟩ = some (.slice none 0 0) := U1.cell 1 (by simp)
  have r2 : w6.cell? ⟨w.heap.size + 1, 2, none⟩ = some (.slice none 0 0) := U1.cell 2 (by simp)
  have q0 := U1.free 0
  have q1 := U1.free 1
  have q2 := U1.free 2
  have M34 : Mine (w.heap.size + 1 + 1) w6 (b3 ++ b4) := M3.app hB6 HM4 (Nat.le_of_eq hVs) (by omega)
  have hM0 : w.heap.size ∉ b3 ++ b4 := fun h => by have := (M34.new _ h).1; omega
  have hM1 : w.heap.size + 1 ∉ b3 ++ b4 := fun h => by have := (M34.new _ h).1; omega
  obtain ⟨F, HFW⟩ : ∃ F, Hid (F = setRow (w6.setCell ⟨w.heap.size, 2, none⟩ (.slice a4 n c4)) (w.heap.size + 1) 0 [.int .i64 id, .slice a3 n2 c3, .slice a4 n c4]) := ⟨_, (rfl : setRow (w6.setCell ⟨w.heap.size, 2, none⟩ (.slice a4 n c4)) (w.heap.size + 1) 0 [.int .i64 id, .slice a3 n2 c3, .slice a4 n c4] = _)⟩
  have hAl : Alike w6 F (b3 ++ b4) := by rw [HFW.out]; exact ((((Alike.refl fun x hx => (M34.new x hx).2).set hM0 2 _).set hM1 0 _).set hM1 1 _).set hM1 2 _
  have HT3 : Hid (Parts F a3 l2 b3) := (S3.bel partE hB6).alike partE (hAl.sub fun x hx => by simp [hx])
  have HT4 : Hid (Tags F a4 l b4) := HS4.alike tagE (hAl.sub fun x hx => by simp [hx])
  have HF : Hid (Fresh W0 F (b3 ++ b4)) := (M34.alike hAl).fresh (Nat.le_trans h0W.out.size (by omega))
  have hB : Hid (Bel w F) := by rw [HFW.out]; exact setRow_bel (bel_set (bel_step hBV hB6) (Nat.le_refl _) _) (Nat.le_succ _) _ _
  clear hgrow HS4 HM4 hAl Z0 Z1 U0 U1 hT4 hown1 hB6 M34 S3 M3
  go_wp2
  exact bodyPost_ret (v := .agg #[.int .i64 id, .slice a3 n2 c3, .slice a4 n c4]) (by simp [results, Tryz.results27, go_sem, r0, r1, r2]) rfl ⟨_, _, b3, _, _, b4, rfl, by rw [HFW.out] at HT3; exact HT3.out, by rw [HFW.out] at HT4; exact HT4.out, by rw [HFW.out] at HF; exact HF.out, by rw [HFW.out] at hB; exact hB.out⟩

end Go.Proofs.YtmmapkpieimibaaGreat
