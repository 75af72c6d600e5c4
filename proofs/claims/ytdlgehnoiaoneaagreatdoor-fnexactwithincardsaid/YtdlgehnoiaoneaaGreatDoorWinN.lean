/-
  Contract of numbersBy at times: the numbers of a row of times, the least first, of the same the first first.
-/
import Derived.Test.YtdlgehnoiaoneaaGreatDoorXA
import Derived.Test.YtdlgehnoiaoneaaGreatDoorGB
import Derived.Test.YtdlgehnoiaoneaaGreatDoorGF
import Derived.Test.YtdlgehnoiaoneaaGreatDoorRtM
namespace Go.Proofs.YtdlgehnoiaoneaaGreatDoor
open Go.RowKit Go.Maps Go.Shelf

theorem isNaNW_any (x : Int) (w : World) : Calls Tryz.prog 61 #[.int .i64 x] w fun e w' => e = .returned (.bool false) ∧ w' = w := by
 go_enter Tryz.func61, Tryz.ntmps61
 go_wp2
 go_ret
 exact ⟨by simp, rfl⟩
set_option maxHeartbeats 1000000 in
theorem compareW_any (x y : Int) (w : World) : Calls Tryz.prog 46 #[.int .i64 x, .int .i64 y] w fun e w' => e = .returned (.int .i64 (cmz x y)) ∧ w' = w := by
 by_cases h1 : x < y
 ·have HZ : Hid (cmz x y = -1) := if_pos h1
  go_enter Tryz.func46, Tryz.ntmps46
  go_wp2_with (first | (go_at_call 61; refine (isNaNW_any _ _).mono ?_; rintro e w' ⟨rfl, rfl⟩))
  go_ret
  exact ⟨by rw [HZ.out]; rfl, rfl⟩
 ·by_cases h2 : y < x
  ·have HZ : Hid (cmz x y = 1) := (by unfold cmz; rw [if_neg h1, if_pos h2] : cmz x y = 1)
   go_enter Tryz.func46, Tryz.ntmps46
   go_wp2_with (first | (go_at_call 61; refine (isNaNW_any _ _).mono ?_; rintro e w' ⟨rfl, rfl⟩))
   go_ret
   exact ⟨by rw [HZ.out]; rfl, rfl⟩
  ·have HZ : Hid (cmz x y = 0) := (by unfold cmz; rw [if_neg h1, if_neg h2] : cmz x y = 0)
   go_enter Tryz.func46, Tryz.ntmps46
   go_wp2_with (first | (go_at_call 61; refine (isNaNW_any _ _).mono ?_; rintro e w' ⟨rfl, rfl⟩))
   go_ret
   exact ⟨by rw [HZ.out]; rfl, rfl⟩

/-- The keys, block k0, and the variable that leads to them, block k1. -/
structure KeysW (w : World) (k0 k1 n : Nat) (K : Nat → Int) : Prop where
 row : w.rowIs k0 2 n (fun i => .int .i64 (K i))
 var : Blk w k1 [.slice (some ⟨k0, 0, none⟩) n n]
theorem KeysW.bel {w w' : World} {k0 k1 n : Nat} {K : Nat → Int} (h : KeysW w k0 k1 n K) (hb : Bel w w') : KeysW w' k0 k1 n K := ⟨h.row.of_block (hb.out.block k0 h.row.lt), h.var.bel hb⟩
theorem KeysW.onl {w w' : World} {k0 k1 n : Nat} {K : Nat → Int} (h : KeysW w k0 k1 n K) {B : Nat} (O : Onl [B] w w') (h0 : k0 ≠ B) (h1 : k1 ≠ B) : KeysW w' k0 k1 n K :=
 ⟨h.row.of_block (O.block k0 h.row.lt (by simpa using h0)), ⟨Nat.lt_of_lt_of_le h.var.lt O.size, fun i hi => by rw [World.cell?_of_block (a := ⟨k1, i, none⟩) (O.block k1 h.var.lt (by simpa using h1))]; exact h.var.cell i hi, fun i => by rw [World.frozen?_of_block (a := ⟨k1, i, none⟩) (O.block k1 h.var.lt (by simpa using h1))]; exact h.var.free i⟩⟩

set_option maxRecDepth 100000 in
set_option maxHeartbeats 1000000 in
theorem keyLessW_any (k0 k1 n : Nat) (K : Nat → Int) (w : World) (hK : KeysW w k0 k1 n K) (x y : Nat) (hx : x < n) (hy : y < n) :
  Calls Tryz.prog 45 #[.int .i64 x, .int .i64 y, .pointer (some ⟨k1, 0, none⟩)] w fun e w' => e = .returned (.int .i64 (cmz (K x) (K y))) ∧ Bel w w' := by
 have g0 : Bel w w := Bel.refl _
 have hR : ∀ w', Bel w w' → w'.cell? ⟨k1, 0, none⟩ = some (.slice (some ⟨k0, 0, none⟩) n n) ∧ w'.cell? ⟨k0, x, none⟩ = some (.int .i64 (K x)) ∧ w'.cell? ⟨k0, y, none⟩ = some (.int .i64 (K y)) := fun w' h =>
  ⟨(hK.bel h).var.cell 0 (by simp), (hK.bel h).row.cell hx, (hK.bel h).row.cell hy⟩
 have hx' : (x : Int) < (n : Int) := by omega
 have hy' : (y : Int) < (n : Int) := by omega
 go_enter Tryz.func45, Tryz.ntmps45
 go_wp2
 go_region_held3 (fun w' => Bel w w') (with_reducible (repeat (first | exact g0 | refine Bel.drew ?_ | assumption)))
  (first
   | (go_at_call 46; refine (compareW_any _ _ _).mono ?_; rintro e w' ⟨rfl, rfl⟩))
 go_wp2
 go_ret
 exact ⟨rfl, by assumption⟩
theorem keyLess_cmpW {W : World} {B k0 k1 n : Nat} {K : Nat → Int} (hK : KeysW W k0 k1 n K) (h0 : k0 ≠ B) (h1 : k1 ≠ B) : CmpK W B n K 45 (.pointer (some ⟨k1, 0, none⟩)) :=
 fun _ w hS x y hx hy => keyLessW_any k0 k1 n K w (hK.onl hS.onl h0 h1) x y hx hy


theorem timeKey_any (x : Int) (w : World) : Calls Tryz.prog 24 #[.int .i64 x] w fun e w' => e = .returned (.int .i64 x) ∧ Bel w w' := by
 go_enter Tryz.func24, Tryz.ntmps24
 go_wp2
 go_ret
 exact ⟨rfl, Bel.refl _⟩
theorem infoNW : (Tryz.prog.info? 2).map (fun i => (i.zero, i.size, i.bytes)) = some (some (.int .i64 0), 1, 8) := by kernel_rfl
/-- The keys and the numbers so far. -/
def kyVW (K : Nat → Int) (k i : Nat) : Value := .int .i64 (if i < k then K i else 0)
def nbVW (k i : Nat) : Value := .int .i64 (if i < k then (i : Int) else 0)
structure NumSW (w : World) (k0 n : Nat) (K : Nat → Int) (k : Nat) (wr : World) : Prop where
 keys : wr.rowIs k0 2 n (kyVW K k)
 var : Blk wr (k0 + 1) [.slice (some ⟨k0, 0, none⟩) n n]
 nums : wr.rowIs (k0 + 1 + 1) 2 n (nbVW k)
 bel : Bel w wr
/-- While round k goes on: all but the two cells that it writes is known. -/
structure NumQW (V : World) (k0 n : Nat) (K : Nat → Int) (k : Nat) (w' : World) : Prop where
 onl : Onl [k0, k0 + 1 + 1] V w'
 keys : ∃ f, w'.rowIs k0 2 n f ∧ ∀ i, i ≠ k → f i = kyVW K k i
 nums : ∃ f, w'.rowIs (k0 + 1 + 1) 2 n f ∧ ∀ i, i ≠ k → f i = nbVW k i
theorem NumQW.bel {V : World} {k0 n : Nat} {K : Nat → Int} {k : Nat} {w' w'' : World} (h : NumQW V k0 n K k w') (hb : Bel w' w'') : NumQW V k0 n K k w'' := by
 obtain ⟨o, ⟨f, f1, f2⟩, ⟨g, g1, g2⟩⟩ := h
 exact ⟨o.bel hb, ⟨f, f1.of_block (hb.out.block _ f1.lt), f2⟩, ⟨g, g1.of_block (hb.out.block _ g1.lt), g2⟩⟩
theorem NumQW.drew {V : World} {k0 n : Nat} {K : Nat → Int} {k : Nat} {w' : World} (h : NumQW V k0 n K k w') : NumQW V k0 n K k w'.drew := h.bel (Bel.drew (Bel.refl _))
theorem NumQW.setK {V : World} {k0 n : Nat} {K : Nat → Int} {k : Nat} {w' : World} (h : NumQW V k0 n K k w') (v : Value) : NumQW V k0 n K k (w'.setCell ⟨k0, k, none⟩ v) := by
 obtain ⟨o, ⟨f, f1, f2⟩, ⟨g, g1, g2⟩⟩ := h
 exact ⟨o.set (by simp) _ _, ⟨_, f1.set k v, fun i hi => by show (if i = k then v else f i) = _; rw [if_neg hi]; exact f2 i hi⟩, ⟨g, g1.setOther (a := ⟨k0, k, none⟩) (by show k0 + 1 + 1 ≠ k0; omega) _, g2⟩⟩
theorem NumQW.setN {V : World} {k0 n : Nat} {K : Nat → Int} {k : Nat} {w' : World} (h : NumQW V k0 n K k w') (v : Value) : NumQW V k0 n K k (w'.setCell ⟨k0 + 1 + 1, k, none⟩ v) := by
 obtain ⟨o, ⟨f, f1, f2⟩, ⟨g, g1, g2⟩⟩ := h
 exact ⟨o.set (by simp) _ _, ⟨f, f1.setOther (a := ⟨k0 + 1 + 1, k, none⟩) (by show k0 ≠ k0 + 1 + 1; omega) _, f2⟩, ⟨_, g1.set k v, fun i hi => by show (if i = k then v else g i) = _; rw [if_neg hi]; exact g2 i hi⟩⟩
theorem NumQW.at {V : World} {k0 n : Nat} {K : Nat → Int} {k : Nat} {w' : World} (h : NumQW V k0 n K k w') (hk : k < n) : (∃ v, w'.cell? ⟨k0, k, none⟩ = some v) ∧ (∃ v, w'.cell? ⟨k0 + 1 + 1, k, none⟩ = some v) ∧ w'.frozen? ⟨k0, k, none⟩ = false ∧ w'.frozen? ⟨k0 + 1 + 1, k, none⟩ = false := by
 obtain ⟨_, ⟨f, f1, _⟩, ⟨g, g1, _⟩⟩ := h
 exact ⟨⟨_, f1.cell hk⟩, ⟨_, g1.cell hk⟩, f1.frozen k, g1.frozen k⟩
theorem NumSW.q {w : World} {k0 n : Nat} {K : Nat → Int} {k : Nat} {wr V : World} (h : NumSW w k0 n K k wr) (hb : Bel wr V) : NumQW V k0 n K k V :=
 ⟨Onl.refl _ _, ⟨_, h.keys.of_block (hb.out.block _ h.keys.lt), fun _ _ => rfl⟩, ⟨_, h.nums.of_block (hb.out.block _ h.nums.lt), fun _ _ => rfl⟩⟩
theorem NumQW.fin {w : World} {k0 n : Nat} {K : Nat → Int} {k : Nat} {wr V w' : World} (h : NumSW w k0 n K k wr) (hb : Bel wr V) (q : NumQW V k0 n K k w') (hw : w.heap.size ≤ k0) (hk : k < n) (e1 : w'.cell? ⟨k0, k, none⟩ = some (.int .i64 (K k))) (e2 : w'.cell? ⟨k0 + 1 + 1, k, none⟩ = some (.int .i64 (k : Int))) : NumSW w k0 n K (k + 1) w' := by
 obtain ⟨o, ⟨f, f1, f2⟩, ⟨g, g1, g2⟩⟩ := q
 have hv := h.var.bel hb
 have ho := o.block (k0 + 1) hv.lt (by simp)
 refine ⟨f1.congr fun i _ => ?_, ⟨Nat.lt_of_lt_of_le hv.lt o.size, fun i hi => by rw [World.cell?_of_block (a := ⟨k0 + 1, i, none⟩) ho]; exact hv.cell i hi, fun i => by rw [World.frozen?_of_block (a := ⟨k0 + 1, i, none⟩) ho]; exact hv.free i⟩, g1.congr fun i _ => ?_, Onl.to_bel (bel_step h.bel hb) o (fun x hx => by simp at hx; omega)⟩
 ·by_cases e : i = k
  ·subst e
   have := (f1.cell hk).symm.trans e1
   rw [Option.some.inj this]; unfold kyVW; rw [if_pos (by omega)]
  ·rw [f2 i e]; unfold kyVW
   by_cases e3 : i < k
   ·rw [if_pos e3, if_pos (by omega)]
   ·rw [if_neg e3, if_neg (by omega)]
 ·by_cases e : i = k
  ·subst e
   have := (g1.cell hk).symm.trans e2
   rw [Option.some.inj this]; unfold nbVW; rw [if_pos (by omega)]
  ·rw [g2 i e]; unfold nbVW
   by_cases e3 : i < k
   ·rw [if_pos e3, if_pos (by omega)]
   ·rw [if_neg e3, if_neg (by omega)]

set_option maxRecDepth 100000 in
set_option maxHeartbeats 4000000 in
theorem numbersByW_any (a : Option Addr) (n c : Nat) (l : List Int) (bs : List Nat) (w : World) (hI : Ints w a l bs) (hl : l.length = n) (hn : n ≤ 8000) :
  Calls Tryz.prog 23 #[.slice a n c, .func (.func 24) #[] #[]] w fun e w' => ∃ d : Nat → Nat, e = .returned (.slice (some ⟨w.heap.size + 1 + 1, 0, none⟩) n n) ∧ w'.rowIs (w.heap.size + 1 + 1) 2 n (fun i => .int .i64 ((d i : Nat) : Int)) ∧ Bk (iAt l) d 0 n ∧ Bel w w' := by
 have hmk1 := fun w' => run_make_row' (P := Tryz.prog) 46 2 (.int .i64 0) 8 Tryz.underlying46 infoNW rfl .i64 .i64 n (by omega) (by omega) w'
 have hmk2 := fun w' => run_make_row' (P := Tryz.prog) 46 2 (.int .i64 0) 8 Tryz.underlying46 infoNW rfl .i64 .i64 n (by omega) (by omega) w'
 obtain ⟨W3, HW⟩ : ∃ W, Hid (W = ((w.alloc (.cells (madeCells #[.int .i64 0] n) 2)).alloc (.cells #[.slice (some ⟨w.heap.size, 0, none⟩) n n] 46)).alloc (.cells (madeCells #[.int .i64 0] n) 2)) := ⟨_, (rfl : ((w.alloc (.cells (madeCells #[.int .i64 0] n) 2)).alloc (.cells #[.slice (some ⟨w.heap.size, 0, none⟩) n n] 46)).alloc (.cells (madeCells #[.int .i64 0] n) 2) = _)⟩
 have HS0 : Hid (NumSW w w.heap.size n (iAt l) 0 W3) := by
  rw [HW.out]
  refine ⟨((((World.rowIs_made w (.int .i64 0) n 2).alloc _).alloc _).congr fun i _ => ?_), ((Blk.new1 w _ [.slice (some ⟨w.heap.size, 0, none⟩) n n] _).bel (bel_alloc (Bel.refl _) _)), ?_, bel_alloc (bel_alloc (bel_alloc (Bel.refl _) _) _) _⟩
  ·unfold kyVW; rw [if_neg (Nat.not_lt_zero _)]
  ·have h := World.rowIs_made ((w.alloc (.cells (madeCells #[.int .i64 0] n) 2)).alloc (.cells #[.slice (some ⟨w.heap.size, 0, none⟩) n n] 46)) (.int .i64 0) n 2
   have e : ((w.alloc (.cells (madeCells #[.int .i64 0] n) 2)).alloc (.cells #[.slice (some ⟨w.heap.size, 0, none⟩) n n] 46)).heap.size = w.heap.size + 1 + 1 := by simp
   rw [e] at h
   exact h.congr fun i _ => by unfold nbVW; rw [if_neg (Nat.not_lt_zero _)]
 have HP : Hid (Ints w a l bs) := hI
 have Hl : Hid (l.length = n) := hl
 clear hI hl
 go_enter Tryz.func23, Tryz.ntmps23
 go_wp2
 rw [← HW.out]
 clear hmk1 hmk2 HW
 go_loopw [7, 8, 17] (fun _ _ i wr => ∃ k : Nat, k ≤ n ∧ i = .int .i64 k ∧ NumSW w w.heap.size n (iAt l) k wr) (fun _ _ i _ => n - (intOf i).toNat)
 case atStart => exact ⟨0, Nat.zero_le _, rfl, HS0.out⟩
 case round =>
  clear HS0
  obtain ⟨k, hk, rfl, hN⟩ := hrel
  have HN : Hid (NumSW w w.heap.size n (iAt l) k wr) := hN
  by_cases hlt : k < n
  ·have hlt' : (k : Int) < (n : Int) := by omega
   obtain ⟨b, off, f, rfl, hb, hx⟩ := (HP.out.bel intE hN.bel).out (k := k) (by rw [Hl.out]; exact hlt)
   have cx := (hx k (by rw [Hl.out]; exact hlt)).2.2
   rw [← iAt_eq, Nat.mul_one] at cx
   obtain ⟨x, Hx⟩ : ∃ x, Hid (iAt l k = x) := ⟨_, (rfl : iAt l k = _)⟩
   rw [Hx.out] at cx
   have XK : Blk wr (w.heap.size + 1) [.slice (some ⟨w.heap.size, 0, none⟩) n n] := hN.var
   have g0 : NumQW wr w.heap.size n (iAt l) k wr := hN.q (Bel.refl _)
   have l1 := hN.keys.lt
   have l2 := hN.nums.lt
   have hR : ∀ w', NumQW wr w.heap.size n (iAt l) k w' → w'.cell? ⟨w.heap.size + 1, 0, none⟩ = some (.slice (some ⟨w.heap.size, 0, none⟩) n n) := fun w' h => by
    have q2 : w.heap.size + 1 ∉ [w.heap.size, w.heap.size + 1 + 1] := by simp
    rw [World.cell?_of_block (a := ⟨w.heap.size + 1, 0, none⟩) (h.onl.block _ XK.lt q2)]; exact XK.cell 0 (by simp)
   clear hN hx XK
   go_wp2
   go_region_held3 (fun w' => NumQW wr w.heap.size n (iAt l) k w') (with_reducible (repeat (first | exact g0 | assumption | refine NumQW.drew ?_ | refine NumQW.setK ?_ _ | refine NumQW.setN ?_ _)))
    (first
     | (go_at_call 24; refine (timeKey_any _ _).mono ?_; rintro e w4 ⟨rfl, hb4⟩; refine (fun hq : NumQW wr w.heap.size n (iAt l) k w4 => ?_) (NumQW.bel (by assumption) hb4); obtain ⟨⟨r0, hr0⟩, ⟨r1, hr1⟩, fz0, fz1⟩ := hq.at hlt))
   obtain ⟨Vf, HVf⟩ : ∃ V : World, Hid (V = (w4.setCell ⟨w.heap.size, k, none⟩ (.int .i64 x)).setCell ⟨w.heap.size + 1 + 1, k, none⟩ (.int .i64 (k : Int))) := ⟨_, (rfl : (w4.setCell ⟨w.heap.size, k, none⟩ (.int .i64 x)).setCell ⟨w.heap.size + 1 + 1, k, none⟩ (.int .i64 (k : Int)) = _)⟩
   have HF : Hid (NumSW w w.heap.size n (iAt l) (k + 1) Vf) := by
    rw [HVf.out]
    refine NumQW.fin HN.out (Bel.refl _) ((hq.setK _).setN _) (Nat.le_refl _) hlt ?_ ?_
    ·rw [Hx.out]; simp [go_sem, hr0]
    ·simp [go_sem, hr1]
   rw [← HVf.out]
   clear hR hr0 hr1 fz0 fz1 hq hb4 g0
   go_wp2
   go_roundw
   case rel => exact ⟨k + 1, by omega, by go_num, HF.out⟩
   case measure => simp [intOf]; omega
  ·obtain rfl : k = n := by omega
   have hlt' : ¬ (k : Int) < (k : Int) := by omega
   have hK : KeysW wr w.heap.size (w.heap.size + 1) k (iAt l) := ⟨hN.keys.congr fun i hi => by unfold kyVW; rw [if_pos hi], hN.var⟩
   have hS : Sw wr (w.heap.size + 1 + 1) k (fun i => i) wr := ⟨hN.nums.congr fun i hi => by unfold nbVW; rw [if_pos hi], Onl.refl _ _⟩
   have cS := sortStable_any wr (w.heap.size + 1 + 1) k k (iAt l) 45 (.pointer (some ⟨w.heap.size + 1, 0, none⟩)) (enters_of Tryz.func45 (by kernel_rfl) rfl) (keyLess_cmpW hK (by omega) (by omega)) wr hS (by omega)
   have hB := hN.bel
   clear hN hK hS
   go_wp2_with fail
   refine cS.mono ?_
   rintro _ w5 ⟨rfl, d, S5, B5⟩
   have HO : Hid (w5.rowIs (w.heap.size + 1 + 1) 2 k (fun i => .int .i64 ((d i : Nat) : Int)) ∧ Bk (iAt l) d 0 k ∧ Bel w w5) := ⟨S5.row, B5, Onl.to_bel hB S5.onl (fun x hx => by simp at hx; omega)⟩
   clear cS S5 B5
   go_wp2
   go_ret
   exact ⟨d, rfl, HO.out.1, HO.out.2.1, HO.out.2.2⟩
end Go.Proofs.YtdlgehnoiaoneaaGreatDoor
