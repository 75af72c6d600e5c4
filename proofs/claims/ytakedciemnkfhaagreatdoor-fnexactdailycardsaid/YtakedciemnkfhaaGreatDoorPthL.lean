/-
  Paths that are held against each other, marked and looked at anew by the law: contracts.
-/
import Derived.Test.YtakedciemnkfhaaGreatDoorHC
import Derived.Test.YtakedciemnkfhaaGreatDoorGT
import Derived.Test.YtakedciemnkfhaaGreatDoorGU
namespace Go.Proofs.YtakedciemnkfhaaGreatDoor
open Go.RowKit Go.Maps

theorem Onl.frx {bs : List Nat} {w w' : World} (h : Onl bs w w') : Frx (fun x => x ∉ bs) w w' := ⟨h.os, h.tape, h.output, h.size, fun i hi hx => h.block i hi hx⟩
abbrev pthV (ok : Bool) (a : Option Addr) (n c : Nat) (tm ln : Int) : Value := .agg #[.bool ok, .slice a n c, .int .i64 tm, .int .i64 ln]
theorem intsN_V (l : List Nat) : intsN l = intsV (l.map Int.ofNat) := by simp [intsN, intsV]
/-- A path's Roads, as the law reads them. -/
theorem PthO.ints {base : Nat} {w : World} {p : PthD} {e : Ending} (h : PthO base w p e) (hi : ∀ x ∈ p.roads, x ≤ 10000) :
  ∃ a c bs, e = .returned (pthV p.ok a p.roads.length c p.time p.len) ∧ Ints w a (p.roads.map Int.ofNat) bs ∧ (∀ x ∈ bs, base ≤ x ∧ x < w.heap.size) ∧ ∀ x ∈ bs, ∀ j, w.frozen? ⟨x, j, none⟩ = false := by
 obtain ⟨va, vc, rfl, hO⟩ := h.out
 have hOI : OwnI base w (.slice va p.roads.length vc) (p.roads.map Int.ofNat) := by
  unfold OwnI
  rw [List.length_map, ← intsN_V]
  exact hO
 obtain ⟨a, c, bs, ev, h1, h2, h3⟩ := own_ints hOI (fun y hy => by
  obtain ⟨x, hx, rfl⟩ := List.mem_map.1 hy
  have := hi x hx
  exact ⟨by show _ ≤ (x : Int); omega, by show (x : Int) ≤ _; omega⟩)
 simp only [Value.slice.injEq] at ev
 obtain ⟨rfl, _, rfl⟩ := ev
 exact ⟨va, vc, bs, rfl, h1, h2, h3⟩

set_option maxRecDepth 100000 in
set_option maxHeartbeats 2000000 in
theorem eqPath_same (ok : Bool) (n : Nat) (tm ln : Int) (a a' : Option Addr) (c c' : Nat) (l : List Int) (bs bs' : List Nat) (w : World) (hP : Ints w a l bs) (hP' : Ints w a' l bs') (hn : l.length = n) (hm : n ≤ 1048576) :
  Calls Tryz.prog 10 #[pthV ok a n c tm ln, pthV ok a' n c' tm ln] w fun e w' => e = .returned (.bool true) ∧ Bel w w' := by
 obtain ⟨W, HW⟩ : ∃ W, Hid (W = (w.alloc (.cells #[.bool ok, .slice a n c, .int .i64 tm, .int .i64 ln] 30)).alloc (.cells #[.bool ok, .slice a' n c', .int .i64 tm, .int .i64 ln] 30)) := ⟨_, (rfl : (w.alloc (.cells #[.bool ok, .slice a n c, .int .i64 tm, .int .i64 ln] 30)).alloc (.cells #[.bool ok, .slice a' n c', .int .i64 tm, .int .i64 ln] 30) = _)⟩
 have hB : Bel w W := by rw [HW.out]; exact bel_alloc (bel_alloc (Bel.refl _) _) _
 have X0 : Blk W w.heap.size [.bool ok, .slice a n c, .int .i64 tm, .int .i64 ln] := by rw [HW.out]; exact (Blk.new w [.bool ok, .slice a n c, .int .i64 tm, .int .i64 ln] _).bel (bel_alloc (Bel.refl _) _)
 have X1 : Blk W (w.heap.size + 1) [.bool ok, .slice a' n c', .int .i64 tm, .int .i64 ln] := by rw [HW.out]; exact Blk.new1 w _ [.bool ok, .slice a' n c', .int .i64 tm, .int .i64 ln] _
 obtain ⟨nw, Hnw⟩ : ∃ k, Hid (w.heap.size = k) := ⟨_, (rfl : w.heap.size = _)⟩
 rw [Hnw.out] at X0 X1
 have cE := eqInt64S_same a a' n c c' l bs bs' W (hP.bel intE hB) (hP'.bel intE hB) hn hm
 have p0 : W.cell? ⟨nw, 0, none⟩ = some (.bool ok) := X0.cell 0 (by simp)
 have p1 : W.cell? ⟨nw, 1, none⟩ = some (.slice a n c) := X0.cell 1 (by simp)
 have q0 : W.cell? ⟨nw + 1, 0, none⟩ = some (.bool ok) := X1.cell 0 (by simp)
 have q1 : W.cell? ⟨nw + 1, 1, none⟩ = some (.slice a' n c') := X1.cell 1 (by simp)
 have pl := X0.lt
 have ql := X1.lt
 have HX0 : Hid (Blk W nw [.bool ok, .slice a n c, .int .i64 tm, .int .i64 ln]) := X0
 have HX1 : Hid (Blk W (nw + 1) [.bool ok, .slice a' n c', .int .i64 tm, .int .i64 ln]) := X1
 have hok : (ok == ok) = true := by simp
 have hok2 : (ok != ok) = false := by simp
 have ht : (tm != tm) = false := by simp
 have hl : (ln != ln) = false := by simp
 clear hP hP' hn hm X0 X1
 go_enter Tryz.func10, Tryz.ntmps10
 go_upto_region 1 with fail
 rw [← HW.out, Hnw.out]
 go_wp2_with fail
 refine cE.mono ?_
 rintro e w1 ⟨rfl, hb1⟩
 have Y0 := HX0.out.bel hb1
 have Y1 := HX1.out.bel hb1
 have p2 : w1.cell? ⟨nw, 2, none⟩ = some (.int .i64 tm) := Y0.cell 2 (by simp)
 have p3 : w1.cell? ⟨nw, 3, none⟩ = some (.int .i64 ln) := Y0.cell 3 (by simp)
 have q2 : w1.cell? ⟨nw + 1, 2, none⟩ = some (.int .i64 tm) := Y1.cell 2 (by simp)
 have q3 : w1.cell? ⟨nw + 1, 3, none⟩ = some (.int .i64 ln) := Y1.cell 3 (by simp)
 have pl1 := Y0.lt
 have ql1 := Y1.lt
 have hBE := bel_step hB hb1
 clear cE p0 p1 q0 q1 pl ql Y0 Y1
 go_wp2
 go_ret
 exact ⟨rfl, hBE⟩

set_option maxRecDepth 100000 in
theorem markPath_any (ok : Bool) (n : Nat) (tm ln : Int) (a : Option Addr) (c : Nat) (l : List Int) (bs : List Nat) (k : Nat) (w : World) (hT : Ints w a l bs) (hf : ∀ x ∈ bs, ∀ j, w.frozen? ⟨x, j, none⟩ = false) (hn : l.length = n) (hm : n ≤ 1048576) (hk : k ≤ 1125899906842624) :
  Calls Tryz.prog 15 #[pthV ok a n c tm ln, .int .i64 k] w fun e w' => e = .returned (.int .i64 ((k + n : Nat) : Int)) ∧ Ints w' a (mkInts k l) bs ∧ Onl bs w w' := by
 obtain ⟨W, HW⟩ : ∃ W, Hid (W = w.alloc (.cells #[.bool ok, .slice a n c, .int .i64 tm, .int .i64 ln] 30)) := ⟨_, (rfl : w.alloc (.cells #[.bool ok, .slice a n c, .int .i64 tm, .int .i64 ln] 30) = _)⟩
 have hB : Bel w W := by rw [HW.out]; exact bel_alloc (Bel.refl _) _
 have X0 : Blk W w.heap.size [.bool ok, .slice a n c, .int .i64 tm, .int .i64 ln] := by rw [HW.out]; exact Blk.new w [.bool ok, .slice a n c, .int .i64 tm, .int .i64 ln] _
 have cM := markInt64S_any a n c l bs k W (hT.bel intE hB) (fun x hx j => by rw [hB.out.frozen (p := ⟨x, j, none⟩) (hT.lt intE x hx)]; exact hf x hx j) hn hm hk
 have p1 : W.cell? ⟨w.heap.size, 1, none⟩ = some (.slice a n c) := X0.cell 1 (by simp)
 have pl := X0.lt
 have HO : Hid (Onl bs w W) := (Onl.refl bs w).bel hB
 obtain ⟨kn, Hkn⟩ : ∃ q, Hid (((k + n : Nat) : Int) = q) := ⟨_, (rfl : ((k + n : Nat) : Int) = _)⟩
 rw [Hkn.out] at cM ⊢
 clear hT hf hn hm hk X0
 go_enter Tryz.func15, Tryz.ntmps15
 go_upto_region 1 with fail
 rw [← HW.out]
 go_wp2_with fail
 refine cM.mono ?_
 rintro e w1 ⟨rfl, h1, _, h3⟩
 have HE : Hid (Ints w1 a (mkInts k l) bs ∧ Onl bs w w1) := ⟨h1, HO.out.trans h3⟩
 clear cM p1 pl h1 h3
 go_wp2
 go_ret
 exact ⟨rfl, HE.out.1, HE.out.2⟩

set_option maxRecDepth 100000 in
theorem heldPath_any (ok : Bool) (n : Nat) (tm ln : Int) (a : Option Addr) (c : Nat) (l : List Int) (bs : List Nat) (k : Nat) (w : World) (hT : Ints w a (mkInts k l) bs) (hn : l.length = n) (hm : n ≤ 1048576) (hk : k ≤ 1125899906842624) :
  Calls Tryz.prog 16 #[pthV ok a n c tm ln, .int .i64 k] w fun e w' => e = .returned (.int .i64 ((k + n : Nat) : Int)) ∧ Bel w w' := by
 obtain ⟨W, HW⟩ : ∃ W, Hid (W = w.alloc (.cells #[.bool ok, .slice a n c, .int .i64 tm, .int .i64 ln] 30)) := ⟨_, (rfl : w.alloc (.cells #[.bool ok, .slice a n c, .int .i64 tm, .int .i64 ln] 30) = _)⟩
 have hB : Bel w W := by rw [HW.out]; exact bel_alloc (Bel.refl _) _
 have X0 : Blk W w.heap.size [.bool ok, .slice a n c, .int .i64 tm, .int .i64 ln] := by rw [HW.out]; exact Blk.new w [.bool ok, .slice a n c, .int .i64 tm, .int .i64 ln] _
 have cM := heldInt64S_any a n c l bs k W (hT.bel intE hB) hn hm hk
 have p1 : W.cell? ⟨w.heap.size, 1, none⟩ = some (.slice a n c) := X0.cell 1 (by simp)
 have pl := X0.lt
 have hk0 : ¬ ((k + n : Nat) : Int) < 0 := by omega
 obtain ⟨kn, Hkn⟩ : ∃ q, Hid (((k + n : Nat) : Int) = q) := ⟨_, (rfl : ((k + n : Nat) : Int) = _)⟩
 rw [Hkn.out] at cM hk0 ⊢
 clear hT hn hm hk X0
 go_enter Tryz.func16, Tryz.ntmps16
 go_upto_region 1 with fail
 rw [← HW.out]
 go_wp2_with fail
 refine cM.mono ?_
 rintro e w1 ⟨rfl, rfl⟩
 clear cM p1 pl
 go_wp2
 go_ret
 exact ⟨rfl, hB⟩
end Go.Proofs.YtakedciemnkfhaaGreatDoor
