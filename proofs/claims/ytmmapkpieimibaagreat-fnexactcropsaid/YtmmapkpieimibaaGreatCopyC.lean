/-
  Copies: the program's and the model's: a list anew, a node, a way, an area with lists of their own: contracts.
-/
import Derived.Test.YtmmapkpieimibaaGreatFlat
import Derived.Deep.RegionHeld3
namespace Go.Proofs.YtmmapkpieimibaaGreat
open Go.RowKit Go.Maps


theorem infoCTag : (Tryz.prog.info? 173).map (fun i => (i.zero, i.size, i.bytes)) = some (some (.agg #[.string ⟨#[]⟩, .string ⟨#[]⟩]), 2, 32) := by kernel_rfl
set_option maxHeartbeats 1000000 in
theorem freshTag_any (a : Option Addr) (n c : Nat) (l : List TagD) (bs : List Nat) (W0 w : World) (h0W : Bel W0 w) (hT : Tags w a l bs) (hn : l.length = n) (hm : n ≤ 1048576) :
    Calls Tryz.prog 89 #[.slice a n c] w fun e w' => ∃ a' c' bs', e = .returned (.slice a' n c') ∧ Tags w' a' l bs' ∧ Fresh W0 w' bs' ∧ Bel w w' := by
  obtain ⟨i0, hi0, hz0, hz1, hz2⟩ := info_parts infoCTag
  have hown0 : w.ownsRow w.heap.size 173 2 (.slice none 0 0) 0 [] := World.ownsRow_nil _ _ _ _
  go_enter Tryz.func89, Tryz.ntmps89
  go_wp2_with (first
    | (at_builtin; refine wpList_append_flat tagF (by decide) rfl _ _ 56 rfl w.heap.size 173 i0 (.agg #[.string ⟨#[]⟩, .string ⟨#[]⟩]) 32 Tryz.underlying56 hi0 hz0 hz1 hz2 rfl _ rfl hown0 a n c l bs rfl hT hn hm (by decide) (Nat.le_refl _) ?_)
    | go_in)
  intro a' c' bs' w3 HS HM hgrow
  have hB : Bel w w3 := bel_grow (Bel.refl _) hgrow (fun j e => by cases e)
  clear hgrow
  go_wp2
  go_ret
  exact ⟨_, _, bs', rfl, HS, HM.fresh h0W.out.size, hB⟩


theorem infoCInt : (Tryz.prog.info? 2).map (fun i => (i.zero, i.size, i.bytes)) = some (some (.int .i64 0), 1, 8) := by kernel_rfl
set_option maxHeartbeats 1000000 in
theorem freshInt_any (a : Option Addr) (n c : Nat) (l : List Int) (bs : List Nat) (W0 w : World) (h0W : Bel W0 w) (hT : Ints w a l bs) (hn : l.length = n) (hm : n ≤ 1048576) :
    Calls Tryz.prog 90 #[.slice a n c] w fun e w' => ∃ a' c' bs', e = .returned (.slice a' n c') ∧ Ints w' a' l bs' ∧ Fresh W0 w' bs' ∧ Bel w w' := by
  obtain ⟨i0, hi0, hz0, hz1, hz2⟩ := info_parts infoCInt
  have hown0 : w.ownsRow w.heap.size 2 1 (.slice none 0 0) 0 [] := World.ownsRow_nil _ _ _ _
  go_enter Tryz.func90, Tryz.ntmps90
  go_wp2_with (first
    | (at_builtin; refine wpList_append_flat intF (by decide) rfl _ _ 60 rfl w.heap.size 2 i0 (.int .i64 0) 8 Tryz.underlying60 hi0 hz0 hz1 hz2 rfl _ rfl hown0 a n c l bs rfl hT hn hm (by decide) (Nat.le_refl _) ?_)
    | go_in)
  intro a' c' bs' w3 HS HM hgrow
  have hB : Bel w w3 := bel_grow (Bel.refl _) hgrow (fun j e => by cases e)
  clear hgrow
  go_wp2
  go_ret
  exact ⟨_, _, bs', rfl, HS, HM.fresh h0W.out.size, hB⟩


theorem infoCPart : (Tryz.prog.info? 70).map (fun i => (i.zero, i.size, i.bytes)) = some (some (.agg #[.int .i64 0, .bool false]), 2, 16) := by kernel_rfl
set_option maxHeartbeats 1000000 in
theorem freshPart_any (a : Option Addr) (n c : Nat) (l : List PartD) (bs : List Nat) (W0 w : World) (h0W : Bel W0 w) (hT : Parts w a l bs) (hn : l.length = n) (hm : n ≤ 1048576) :
    Calls Tryz.prog 91 #[.slice a n c] w fun e w' => ∃ a' c' bs', e = .returned (.slice a' n c') ∧ Parts w' a' l bs' ∧ Fresh W0 w' bs' ∧ Bel w w' := by
  obtain ⟨i0, hi0, hz0, hz1, hz2⟩ := info_parts infoCPart
  have hown0 : w.ownsRow w.heap.size 70 2 (.slice none 0 0) 0 [] := World.ownsRow_nil _ _ _ _
  go_enter Tryz.func91, Tryz.ntmps91
  go_wp2_with (first
    | (at_builtin; refine wpList_append_flat partF (by decide) rfl _ _ 66 rfl w.heap.size 70 i0 (.agg #[.int .i64 0, .bool false]) 16 Tryz.underlying66 hi0 hz0 hz1 hz2 rfl _ rfl hown0 a n c l bs rfl hT hn hm (by decide) (Nat.le_refl _) ?_)
    | go_in)
  intro a' c' bs' w3 HS HM hgrow
  have hB : Bel w w3 := bel_grow (Bel.refl _) hgrow (fun j e => by cases e)
  clear hgrow
  go_wp2
  go_ret
  exact ⟨_, _, bs', rfl, HS, HM.fresh h0W.out.size, hB⟩


/-- The answer's own box of n cells, what stood ahead of it as it was. -/
structure So (W : World) (B n : Nat) (w : World) : Prop where
  b : Bel W w
  r : ∃ vs : List Value, vs.length = n ∧ Blk w B vs
theorem So.drew {W : World} {B n : Nat} {w : World} (h : So W B n w) : So W B n w.drew := ⟨h.b.drew, by obtain ⟨vs, e, r⟩ := h.r; exact ⟨vs, e, r.lt, r.cell, r.free⟩⟩
theorem So.bel {W : World} {B n : Nat} {w w' : World} (h : So W B n w) (hb : Bel w w') : So W B n w' := ⟨bel_step h.b hb, by obtain ⟨vs, e, r⟩ := h.r; exact ⟨vs, e, r.bel hb⟩⟩
theorem So.set {W : World} {B n : Nat} {w : World} (h : So W B n w) (hB : W.heap.size ≤ B) (i : Nat) (hi : i < n) (u : Value) : So W B n (w.setCell ⟨B, i, none⟩ u) :=
  ⟨bel_set h.b hB _, by obtain ⟨vs, e, r⟩ := h.r; exact ⟨vs.set i u, by simpa using e, r.set i u (by omega)⟩⟩
theorem setRow_far {w : World} {B o : Nat} (vs : List Value) {bs : List Nat} (hs : ∀ x ∈ bs, x < w.heap.size) (hB : B ∉ bs) : Alike w (setRow w B o vs) bs := setRow_alike vs hs hB
theorem Fresh.alike {v w w' : World} {bs : List Nat} (h : Fresh v w bs) (hA : Alike w w' bs) : Fresh v w' bs :=
  ⟨h.nd, fun b hm => ⟨(h.new b hm).1, (hA b hm).1⟩, fun b hm j => by rw [(hA b hm).2.2 j]; exact h.free b hm j⟩


set_option maxRecDepth 100000 in
set_option maxHeartbeats 2000000 in
theorem nodeTold_any (id x y : Int) (a : Option Addr) (n c : Nat) (l : List TagD) (bs : List Nat) (W0 w : World) (h0W : Bel W0 w) (hT : Tags w a l bs) (hn : l.length = n) (hm : n ≤ 1048576) :
    Calls Tryz.prog 36 #[.agg #[.int .i64 id, .slice a n c, .int .i64 x, .int .i64 y]] w fun e w' => ∃ a' c' bs', e = .returned (.agg #[.int .i64 id, .int .i64 x, .int .i64 y, .slice a' n c']) ∧ Tags w' a' l bs' ∧ Fresh W0 w' bs' ∧ Bel w w' := by
  obtain ⟨W1, HW1⟩ : ∃ W, Hid (W = w.alloc (.cells #[.int .i64 id, .slice a n c, .int .i64 x, .int .i64 y] 91)) := ⟨_, (rfl : w.alloc (.cells #[.int .i64 id, .slice a n c, .int .i64 x, .int .i64 y] 91) = _)⟩
  have hB1 : Bel w W1 := by rw [HW1.out]; exact bel_alloc (Bel.refl _) _
  have hs1 : W1.heap.size = w.heap.size + 1 := by rw [HW1.out]; simp
  have X1 : Blk W1 w.heap.size [.int .i64 id, .slice a n c, .int .i64 x, .int .i64 y] := by rw [HW1.out]; exact Blk.new w [.int .i64 id, .slice a n c, .int .i64 x, .int .i64 y] _
  obtain ⟨W2, HW2⟩ : ∃ W, Hid (W = W1.alloc (.cells #[.int .i64 0, .int .i64 0, .int .i64 0, .slice none 0 0] 58)) := ⟨_, (rfl : W1.alloc (.cells #[.int .i64 0, .int .i64 0, .int .i64 0, .slice none 0 0] 58) = _)⟩
  have hB2 : Bel W1 W2 := by rw [HW2.out]; exact bel_alloc (Bel.refl _) _
  have hs2 : W2.heap.size = w.heap.size + 1 + 1 := by rw [HW2.out]; simp [hs1]
  have X2 : Blk W2 (w.heap.size + 1) [.int .i64 0, .int .i64 0, .int .i64 0, .slice none 0 0] := by rw [HW2.out, ← hs1]; exact Blk.new W1 [.int .i64 0, .int .i64 0, .int .i64 0, .slice none 0 0] _
  have g0 : So W1 (w.heap.size + 1) 4 W2 := ⟨hB2, _, rfl, X2⟩
  have hR : ∀ w', So W1 (w.heap.size + 1) 4 w' → w'.cell? ⟨w.heap.size, 0, none⟩ = some (.int .i64 id) ∧ w'.cell? ⟨w.heap.size, 1, none⟩ = some (.slice a n c) ∧ w'.cell? ⟨w.heap.size, 2, none⟩ = some (.int .i64 x) ∧ w'.cell? ⟨w.heap.size, 3, none⟩ = some (.int .i64 y) ∧ w'.frozen? ⟨w.heap.size + 1, 0, none⟩ = false ∧ w'.frozen? ⟨w.heap.size + 1, 1, none⟩ = false ∧ w'.frozen? ⟨w.heap.size + 1, 2, none⟩ = false ∧ w'.frozen? ⟨w.heap.size + 1, 3, none⟩ = false :=
    fun w' h => by obtain ⟨vs, _, r⟩ := h.r; exact ⟨(X1.bel h.b).cell 0 (by simp), (X1.bel h.b).cell 1 (by simp), (X1.bel h.b).cell 2 (by simp), (X1.bel h.b).cell 3 (by simp), r.free _, r.free _, r.free _, r.free _⟩
  have hT1 : ∀ w', So W1 (w.heap.size + 1) 4 w' → Tags w' a l bs := fun w' h => (hT.bel tagE hB1).bel tagE h.b
  have hle : W1.heap.size ≤ w.heap.size + 1 := Nat.le_of_eq hs1
  have HNo : Hid (∀ b5 w5, Fresh W2 w5 b5 → w.heap.size + 1 ∉ b5) := fun b5 w5 F hx => by have := (F.new _ hx).1; omega
  clear hT X1 X2
  go_enter Tryz.func36, Tryz.ntmps36
  go_wp2
  rw [← HW1.out, ← HW2.out]
  go_region_held3 (fun w' => So W1 (w.heap.size + 1) 4 w') (with_reducible (repeat (first | assumption | exact g0 | refine So.drew ?_ | refine So.set ?_ hle _ (by decide) _ | refine So.bel (by assumption) (by assumption))))
    (first
      | (go_at_call 89; refine (freshTag_any _ _ _ l bs W2 _ (by with_reducible (repeat (first | exact Bel.refl _ | refine Bel.drew ?_))) (hT1 _ (by assumption)) hn hm).mono ?_; rintro e w5 ⟨a5, c5, b5, rfl, T5, F5, hb5⟩; obtain ⟨vs5, len5, R5⟩ := (So.bel (W := W1) (B := w.heap.size + 1) (n := 4) (by assumption) hb5).r; have c0 : w5.cell? ⟨w.heap.size + 1, 0, none⟩ = some vs5[0] := R5.cell 0 (by omega); have c1 : w5.cell? ⟨w.heap.size + 1, 1, none⟩ = some vs5[1] := R5.cell 1 (by omega); have c2 : w5.cell? ⟨w.heap.size + 1, 2, none⟩ = some vs5[2] := R5.cell 2 (by omega); have c3 : w5.cell? ⟨w.heap.size + 1, 3, none⟩ = some vs5[3] := R5.cell 3 (by omega)))
  have hF : So W1 (w.heap.size + 1) 4 (setRow w5 (w.heap.size + 1) 0 [.int .i64 id, .int .i64 x, .int .i64 y, .slice a5 n c5]) := by assumption
  have hAl : Alike w5 (setRow w5 (w.heap.size + 1) 0 [.int .i64 id, .int .i64 x, .int .i64 y, .slice a5 n c5]) b5 := setRow_far _ (T5.lt tagE) (HNo.out _ _ F5)
  have HT : Hid (Tags (setRow w5 (w.heap.size + 1) 0 [.int .i64 id, .int .i64 x, .int .i64 y, .slice a5 n c5]) a5 l b5) := T5.alike tagE hAl
  have HF : Hid (Fresh W0 (setRow w5 (w.heap.size + 1) 0 [.int .i64 id, .int .i64 x, .int .i64 y, .slice a5 n c5]) b5) := (F5.alike hAl).old (Nat.le_trans h0W.out.size (by omega))
  have hB : Bel w (setRow w5 (w.heap.size + 1) 0 [.int .i64 id, .int .i64 x, .int .i64 y, .slice a5 n c5]) := bel_step hB1 hF.b
  clear T5 F5 hb5 hAl hF hR hT1 g0 R5
  go_wp2
  exact bodyPost_ret (v := .agg #[.int .i64 id, .int .i64 x, .int .i64 y, .slice a5 n c5]) (by simp [results, Tryz.results36, go_sem, c0, c1, c2, c3]) rfl ⟨_, _, b5, rfl, HT.out, HF.out, hB⟩


set_option maxRecDepth 100000 in
set_option maxHeartbeats 4000000 in
theorem wayTold_any (id : Int) (a : Option Addr) (n c : Nat) (l : List TagD) (bs : List Nat) (a2 : Option Addr) (n2 c2 : Nat) (l2 : List Int) (bs2 : List Nat) (W0 w : World) (h0W : Bel W0 w) (hT : Tags w a l bs) (hn : l.length = n) (hm : n ≤ 1048576) (hT2 : Ints w a2 l2 bs2) (hn2 : l2.length = n2) (hm2 : n2 ≤ 1048576) :
    Calls Tryz.prog 37 #[.agg #[.int .i64 id, .slice a n c, .slice a2 n2 c2]] w fun e w' => ∃ a3 c3 b3 a4 c4 b4, e = .returned (.agg #[.int .i64 id, .slice a3 n2 c3, .slice a4 n c4]) ∧ Ints w' a3 l2 b3 ∧ Tags w' a4 l b4 ∧ Fresh W0 w' (b3 ++ b4) ∧ Bel w w' := by
  obtain ⟨W1, HW1⟩ : ∃ W, Hid (W = w.alloc (.cells #[.int .i64 id, .slice a n c, .slice a2 n2 c2] 95)) := ⟨_, (rfl : w.alloc (.cells #[.int .i64 id, .slice a n c, .slice a2 n2 c2] 95) = _)⟩
  have hB1 : Bel w W1 := by rw [HW1.out]; exact bel_alloc (Bel.refl _) _
  have hs1 : W1.heap.size = w.heap.size + 1 := by rw [HW1.out]; simp
  have X1 : Blk W1 w.heap.size [.int .i64 id, .slice a n c, .slice a2 n2 c2] := by rw [HW1.out]; exact Blk.new w [.int .i64 id, .slice a n c, .slice a2 n2 c2] _
  obtain ⟨W2, HW2⟩ : ∃ W, Hid (W = W1.alloc (.cells #[.int .i64 0, .slice none 0 0, .slice none 0 0] 62)) := ⟨_, (rfl : W1.alloc (.cells #[.int .i64 0, .slice none 0 0, .slice none 0 0] 62) = _)⟩
  have hB2 : Bel W1 W2 := by rw [HW2.out]; exact bel_alloc (Bel.refl _) _
  have hs2 : W2.heap.size = w.heap.size + 1 + 1 := by rw [HW2.out]; simp [hs1]
  have X2 : Blk W2 (w.heap.size + 1) [.int .i64 0, .slice none 0 0, .slice none 0 0] := by rw [HW2.out, ← hs1]; exact Blk.new W1 [.int .i64 0, .slice none 0 0, .slice none 0 0] _
  have g0 : So W1 (w.heap.size + 1) 3 W2 := ⟨hB2, _, rfl, X2⟩
  have hR : ∀ w', So W1 (w.heap.size + 1) 3 w' → w'.cell? ⟨w.heap.size, 0, none⟩ = some (.int .i64 id) ∧ w'.cell? ⟨w.heap.size, 1, none⟩ = some (.slice a n c) ∧ w'.cell? ⟨w.heap.size, 2, none⟩ = some (.slice a2 n2 c2) ∧ w'.frozen? ⟨w.heap.size + 1, 0, none⟩ = false ∧ w'.frozen? ⟨w.heap.size + 1, 1, none⟩ = false ∧ w'.frozen? ⟨w.heap.size + 1, 2, none⟩ = false :=
    fun w' h => by obtain ⟨vs, _, r⟩ := h.r; exact ⟨(X1.bel h.b).cell 0 (by simp), (X1.bel h.b).cell 1 (by simp), (X1.bel h.b).cell 2 (by simp), r.free _, r.free _, r.free _⟩
  have hT1 : ∀ w', So W1 (w.heap.size + 1) 3 w' → Tags w' a l bs := fun w' h => (hT.bel tagE hB1).bel tagE h.b
  have hT3 : ∀ w', So W1 (w.heap.size + 1) 3 w' → Ints w' a2 l2 bs2 := fun w' h => (hT2.bel intE hB1).bel intE h.b
  have hle : W1.heap.size ≤ w.heap.size + 1 := Nat.le_of_eq hs1
  have HNo : Hid (∀ b5 w5, Fresh W2 w5 b5 → w.heap.size + 1 ∉ b5) := fun b5 w5 F hx => by have := (F.new _ hx).1; omega
  clear hT hT2 X1 X2
  go_enter Tryz.func37, Tryz.ntmps37
  go_wp2
  rw [← HW1.out, ← HW2.out]
  go_region_held3 (fun w' => So W1 (w.heap.size + 1) 3 w') (with_reducible (repeat (first | assumption | exact g0 | refine So.drew ?_ | refine So.set ?_ hle _ (by decide) _ | refine So.bel (by assumption) (by assumption))))
    (first
      | (go_at_call 90; refine (freshInt_any _ _ _ l2 bs2 W2 _ (by with_reducible (repeat (first | exact Bel.refl _ | refine Bel.drew ?_))) (hT3 _ (by assumption)) hn2 hm2).mono ?_; rintro e w5 ⟨a5, c5, b5, rfl, T5, F5, hb5⟩; refine (fun hB25 : Bel W2 w5 => ?_) (bel_step (by with_reducible (repeat (first | exact Bel.refl _ | refine Bel.drew ?_))) hb5))
      | (go_at_call 89; refine (freshTag_any _ _ _ l bs w5 _ (by with_reducible (repeat (first | exact Bel.refl _ | refine Bel.drew ?_))) (hT1 _ (by assumption)) hn hm).mono ?_; rintro e w6 ⟨a6, c6, b6, rfl, T6, F6, hb6⟩; refine (fun hB56 : Bel w5 w6 => ?_) (bel_step (by with_reducible (repeat (first | exact Bel.refl _ | refine Bel.drew ?_))) hb6); obtain ⟨vs6, len6, R6⟩ := (So.bel (W := W1) (B := w.heap.size + 1) (n := 3) (by assumption) hb6).r; have z0 : w6.cell? ⟨w.heap.size + 1, 0, none⟩ = some vs6[0] := R6.cell 0 (by omega); have z1 : w6.cell? ⟨w.heap.size + 1, 1, none⟩ = some vs6[1] := R6.cell 1 (by omega); have z2 : w6.cell? ⟨w.heap.size + 1, 2, none⟩ = some vs6[2] := R6.cell 2 (by omega)))
  have hF : So W1 (w.heap.size + 1) 3 (setRow w6 (w.heap.size + 1) 0 [.int .i64 id, .slice a5 n2 c5, .slice a6 n c6]) := by assumption
  have F56 := F5.behind hB25 F6 hB56
  have hAl : Alike w6 (setRow w6 (w.heap.size + 1) 0 [.int .i64 id, .slice a5 n2 c5, .slice a6 n c6]) (b5 ++ b6) := setRow_far _ (fun x hx => (F56.new x hx).2) (HNo.out _ _ F56)
  have HT5 : Hid (Ints (setRow w6 (w.heap.size + 1) 0 [.int .i64 id, .slice a5 n2 c5, .slice a6 n c6]) a5 l2 b5) := (T5.bel intE hB56).alike intE (hAl.sub fun x hx => by simp [hx])
  have HT6 : Hid (Tags (setRow w6 (w.heap.size + 1) 0 [.int .i64 id, .slice a5 n2 c5, .slice a6 n c6]) a6 l b6) := T6.alike tagE (hAl.sub fun x hx => by simp [hx])
  have HF : Hid (Fresh W0 (setRow w6 (w.heap.size + 1) 0 [.int .i64 id, .slice a5 n2 c5, .slice a6 n c6]) (b5 ++ b6)) := (F56.alike hAl).old (Nat.le_trans h0W.out.size (by omega))
  have hB : Bel w (setRow w6 (w.heap.size + 1) 0 [.int .i64 id, .slice a5 n2 c5, .slice a6 n c6]) := bel_step hB1 hF.b
  clear T5 T6 F5 F6 F56 hb5 hb6 hB25 hB56 hAl hF hR hT1 hT3 g0 R6
  go_wp2
  exact bodyPost_ret (v := .agg #[.int .i64 id, .slice a5 n2 c5, .slice a6 n c6]) (by simp [results, Tryz.results37, go_sem, z0, z1, z2]) rfl ⟨_, _, b5, _, _, b6, rfl, HT5.out, HT6.out, HF.out, hB⟩


set_option maxRecDepth 100000 in
set_option maxHeartbeats 4000000 in
theorem areaTold_any (id : Int) (a : Option Addr) (n c : Nat) (l : List TagD) (bs : List Nat) (a2 : Option Addr) (n2 c2 : Nat) (l2 : List PartD) (bs2 : List Nat) (W0 w : World) (h0W : Bel W0 w) (hT : Tags w a l bs) (hn : l.length = n) (hm : n ≤ 1048576) (hT2 : Parts w a2 l2 bs2) (hn2 : l2.length = n2) (hm2 : n2 ≤ 1048576) :
    Calls Tryz.prog 39 #[.agg #[.int .i64 id, .slice a n c, .slice a2 n2 c2]] w fun e w' => ∃ a3 c3 b3 a4 c4 b4, e = .returned (.agg #[.int .i64 id, .slice a3 n2 c3, .slice a4 n c4]) ∧ Parts w' a3 l2 b3 ∧ Tags w' a4 l b4 ∧ Fresh W0 w' (b3 ++ b4) ∧ Bel w w' := by
  obtain ⟨W1, HW1⟩ : ∃ W, Hid (W = w.alloc (.cells #[.int .i64 id, .slice a n c, .slice a2 n2 c2] 98)) := ⟨_, (rfl : w.alloc (.cells #[.int .i64 id, .slice a n c, .slice a2 n2 c2] 98) = _)⟩
  have hB1 : Bel w W1 := by rw [HW1.out]; exact bel_alloc (Bel.refl _) _
  have hs1 : W1.heap.size = w.heap.size + 1 := by rw [HW1.out]; simp
  have X1 : Blk W1 w.heap.size [.int .i64 id, .slice a n c, .slice a2 n2 c2] := by rw [HW1.out]; exact Blk.new w [.int .i64 id, .slice a n c, .slice a2 n2 c2] _
  obtain ⟨W2, HW2⟩ : ∃ W, Hid (W = W1.alloc (.cells #[.int .i64 0, .slice none 0 0, .slice none 0 0] 68)) := ⟨_, (rfl : W1.alloc (.cells #[.int .i64 0, .slice none 0 0, .slice none 0 0] 68) = _)⟩
  have hB2 : Bel W1 W2 := by rw [HW2.out]; exact bel_alloc (Bel.refl _) _
  have hs2 : W2.heap.size = w.heap.size + 1 + 1 := by rw [HW2.out]; simp [hs1]
  have X2 : Blk W2 (w.heap.size + 1) [.int .i64 0, .slice none 0 0, .slice none 0 0] := by rw [HW2.out, ← hs1]; exact Blk.new W1 [.int .i64 0, .slice none 0 0, .slice none 0 0] _
  have g0 : So W1 (w.heap.size + 1) 3 W2 := ⟨hB2, _, rfl, X2⟩
  have hR : ∀ w', So W1 (w.heap.size + 1) 3 w' → w'.cell? ⟨w.heap.size, 0, none⟩ = some (.int .i64 id) ∧ w'.cell? ⟨w.heap.size, 1, none⟩ = some (.slice a n c) ∧ w'.cell? ⟨w.heap.size, 2, none⟩ = some (.slice a2 n2 c2) ∧ w'.frozen? ⟨w.heap.size + 1, 0, none⟩ = false ∧ w'.frozen? ⟨w.heap.size + 1, 1, none⟩ = false ∧ w'.frozen? ⟨w.heap.size + 1, 2, none⟩ = false :=
    fun w' h => by obtain ⟨vs, _, r⟩ := h.r; exact ⟨(X1.bel h.b).cell 0 (by simp), (X1.bel h.b).cell 1 (by simp), (X1.bel h.b).cell 2 (by simp), r.free _, r.free _, r.free _⟩
  have hT1 : ∀ w', So W1 (w.heap.size + 1) 3 w' → Tags w' a l bs := fun w' h => (hT.bel tagE hB1).bel tagE h.b
  have hT3 : ∀ w', So W1 (w.heap.size + 1) 3 w' → Parts w' a2 l2 bs2 := fun w' h => (hT2.bel partE hB1).bel partE h.b
  have hle : W1.heap.size ≤ w.heap.size + 1 := Nat.le_of_eq hs1
  have HNo : Hid (∀ b5 w5, Fresh W2 w5 b5 → w.heap.size + 1 ∉ b5) := fun b5 w5 F hx => by have := (F.new _ hx).1; omega
  clear hT hT2 X1 X2
  go_enter Tryz.func39, Tryz.ntmps39
  go_wp2
  rw [← HW1.out, ← HW2.out]
  go_region_held3 (fun w' => So W1 (w.heap.size + 1) 3 w') (with_reducible (repeat (first | assumption | exact g0 | refine So.drew ?_ | refine So.set ?_ hle _ (by decide) _ | refine So.bel (by assumption) (by assumption))))
    (first
      | (go_at_call 91; refine (freshPart_any _ _ _ l2 bs2 W2 _ (by with_reducible (repeat (first | exact Bel.refl _ | refine Bel.drew ?_))) (hT3 _ (by assumption)) hn2 hm2).mono ?_; rintro e w5 ⟨a5, c5, b5, rfl, T5, F5, hb5⟩; refine (fun hB25 : Bel W2 w5 => ?_) (bel_step (by with_reducible (repeat (first | exact Bel.refl _ | refine Bel.drew ?_))) hb5))
      | (go_at_call 89; refine (freshTag_any _ _ _ l bs w5 _ (by with_reducible (repeat (first | exact Bel.refl _ | refine Bel.drew ?_))) (hT1 _ (by assumption)) hn hm).mono ?_; rintro e w6 ⟨a6, c6, b6, rfl, T6, F6, hb6⟩; refine (fun hB56 : Bel w5 w6 => ?_) (bel_step (by with_reducible (repeat (first | exact Bel.refl _ | refine Bel.drew ?_))) hb6); obtain ⟨vs6, len6, R6⟩ := (So.bel (W := W1) (B := w.heap.size + 1) (n := 3) (by assumption) hb6).r; have z0 : w6.cell? ⟨w.heap.size + 1, 0, none⟩ = some vs6[0] := R6.cell 0 (by omega); have z1 : w6.cell? ⟨w.heap.size + 1, 1, none⟩ = some vs6[1] := R6.cell 1 (by omega); have z2 : w6.cell? ⟨w.heap.size + 1, 2, none⟩ = some vs6[2] := R6.cell 2 (by omega)))
  have hF : So W1 (w.heap.size + 1) 3 (setRow w6 (w.heap.size + 1) 0 [.int .i64 id, .slice a5 n2 c5, .slice a6 n c6]) := by assumption
  have F56 := F5.behind hB25 F6 hB56
  have hAl : Alike w6 (setRow w6 (w.heap.size + 1) 0 [.int .i64 id, .slice a5 n2 c5, .slice a6 n c6]) (b5 ++ b6) := setRow_far _ (fun x hx => (F56.new x hx).2) (HNo.out _ _ F56)
  have HT5 : Hid (Parts (setRow w6 (w.heap.size + 1) 0 [.int .i64 id, .slice a5 n2 c5, .slice a6 n c6]) a5 l2 b5) := (T5.bel partE hB56).alike partE (hAl.sub fun x hx => by simp [hx])
  have HT6 : Hid (Tags (setRow w6 (w.heap.size + 1) 0 [.int .i64 id, .slice a5 n2 c5, .slice a6 n c6]) a6 l b6) := T6.alike tagE (hAl.sub fun x hx => by simp [hx])
  have HF : Hid (Fresh W0 (setRow w6 (w.heap.size + 1) 0 [.int .i64 id, .slice a5 n2 c5, .slice a6 n c6]) (b5 ++ b6)) := (F56.alike hAl).old (Nat.le_trans h0W.out.size (by omega))
  have hB : Bel w (setRow w6 (w.heap.size + 1) 0 [.int .i64 id, .slice a5 n2 c5, .slice a6 n c6]) := bel_step hB1 hF.b
  clear T5 T6 F5 F6 F56 hb5 hb6 hB25 hB56 hAl hF hR hT1 hT3 g0 R6
  go_wp2
  exact bodyPost_ret (v := .agg #[.int .i64 id, .slice a5 n2 c5, .slice a6 n c6]) (by simp [results, Tryz.results39, go_sem, z0, z1, z2]) rfl ⟨_, _, b5, _, _, b6, rfl, HT5.out, HT6.out, HF.out, hB⟩

end Go.Proofs.YtmmapkpieimibaaGreat
