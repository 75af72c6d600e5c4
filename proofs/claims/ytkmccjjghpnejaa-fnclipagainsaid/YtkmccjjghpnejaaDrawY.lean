/-
  What the model draws where it draws rows: a row of its own of any points.
-/
import Derived.Test.YtkmccjjghpnejaaDrawX
import Derived.Laws.MakeOwn
namespace Go.Proofs.Ytkmccjjghpnejaa
open Go.RowKit

theorem own_low {w : World} {base base' e sz k : Nat} {v : Value} {xs : List Value} (h : w.ownsRow base e sz v k xs) (hb : base' ≤ base) : w.ownsRow base' e sz v k xs :=
 ⟨h.1, h.2.imp id fun ⟨g, cap, cur, hv, hb', r⟩ => ⟨g, cap, cur, hv, Nat.le_trans hb hb', r⟩⟩

set_option maxRecDepth 100000 in
set_option maxHeartbeats 4000000 in
theorem drawRow_any (B : Nat) (a : Option Addr) (n c : Nat) (w0 w : World) (hb : Bel w0 w) (hB : w0.heap.size ≤ B) (hC : Cur w B a n c) (hS : Bts w0 a n) (hn : n ≤ 1048576) (m : Nat) (hm : m ≤ 4096) :
  Calls Try.prog 77 #[.pointer (some ⟨B, 0, none⟩), .int .i64 m] w fun e w' => ∃ (v : Value) (xs : List Value), e = .returned v ∧ w'.ownsRow w.heap.size 31 2 v m xs ∧ (∀ u ∈ xs, ∃ z : Int, u = .int .i64 z) ∧ Drawn w0 w B a n c w' := by
 have hB1 : B < w.heap.size := hC.lt
 have hBl : w0.heap.size ≤ w.heap.size := hb.out.size
 have D1 : Drawn w0 w B a n c (w.alloc (.cells #[] 31)) := Drawn.bel ⟨hb, OnlyB.refl _ _, hC⟩ (bel_alloc (Bel.refl _) _)
 have O1 : (w.alloc (.cells #[] 31)).ownsRow w.heap.size 31 2 (.slice (some ⟨w.heap.size, 0, none⟩) 0 0) 0 [] := World.ownsRow_lit w #[] 0 (Nat.le_refl _) (Nat.zero_le _) rfl
 obtain ⟨i0, hi, hz0, hz1, hz2⟩ := infoX_parts
 go_enter Try.func77, Try.ntmps77
 go_wp2
 go_loopw [5, 6] (fun r i wr => ∃ (k : Nat) (xs : List Value), k ≤ m ∧ i = .int .i64 k ∧ wr.ownsRow w.heap.size 31 2 r k xs ∧ (∀ u ∈ xs, ∃ z : Int, u = .int .i64 z) ∧ Drawn w0 w B a n c wr) (fun _ i _ => m - (intOf i).toNat)
 case atStart => exact ⟨0, [], by omega, rfl, O1, (fun u hu => by cases hu), D1⟩
 case round =>
  obtain ⟨k, xs, hk, rfl, hO, hX, hD⟩ := hrel
  clear D1 O1
  obtain ⟨va, vc, rfl⟩ := own_form hO
  by_cases hlt : k < m
  ·have hlt' : (k : Int) < (m : Int) := by omega
   go_wp2_with fail
   refine (drawPoint_any B a n c w0 wr hD.b hB hD.k hS hn).mono ?_
   rintro e w3 ⟨x, y, rfl, d3⟩
   have hs3 : w.heap.size ≤ w3.heap.size := (hD.then d3).o.size
   have HO : Hid ((w3.alloc (.cells #[.int .i64 x, .int .i64 y] 31)).ownsRow w.heap.size 31 2 (.slice va k vc) k xs) := (own_drawn hO d3 hB1).alloc (.cells #[.int .i64 x, .int .i64 y] 31)
   have HD : Hid (Drawn w0 w B a n c (w3.alloc (.cells #[.int .i64 x, .int .i64 y] 31))) := (hD.then d3).bel (bel_alloc (Bel.refl w3) (.cells #[.int .i64 x, .int .i64 y] 31))
   have HN : Hid (∀ (j : Nat) (u : Value), [Value.int .i64 x, .int .i64 y][j]? = some u → (w3.alloc (.cells #[.int .i64 x, .int .i64 y] 31)).cell? ((⟨w3.heap.size, 0, none⟩ : Addr).add j) = some u) := World.news_of_block (cs := #[.int .i64 x, .int .i64 y]) (t := 31) (fr := (0, 0)) (heap_alloc_new w3 _)
   clear d3 hO hD
   go_wp2_with (first
    | (at_builtin; refine wpList_append_own _ rfl _ _ 24 rfl w.heap.size 31 i0 (.agg #[.int .i64 0, .int .i64 0]) 2 16 Try.underlying24 hi hz0 hz1 hz2 rfl (by decide) _ _ _ rfl HO.out ⟨w3.heap.size, 0, none⟩ 1 1 [.int .i64 x, .int .i64 y] rfl rfl HN.out (by simp [Value.oneCell']) (by unfold maxLen; omega) (by omega) (by simp; omega) ?_)
    | go_in)
   intro v' w4 hown hgrow _
   have HD4 : Hid (Drawn w0 w B a n c w4) := HD.out.grown hgrow hBl hB1 (fun q e => (HO.out.lt q e).1)
   have HO4 : Hid (w4.ownsRow w.heap.size 31 2 v' (k + 1) (xs ++ [.int .i64 x, .int .i64 y])) := hown
   obtain ⟨va', vc', rfl⟩ := own_form hown
   have HX : Hid (∀ u ∈ xs ++ [Value.int .i64 x, .int .i64 y], ∃ z : Int, u = .int .i64 z) := fun u hu => by
    rcases List.mem_append.1 hu with h | h
    ·exact hX u h
    ·simp at h
     rcases h with rfl | rfl
     ·exact ⟨_, rfl⟩
     ·exact ⟨_, rfl⟩
   clear hown hgrow HO HD HN
   go_wp2
   go_roundw
   case rel => exact ⟨k + 1, _, by omega, by go_num, HO4.out, HX.out, HD4.out⟩
   case measure => simp [intOf]; omega
  ·obtain rfl : k = m := by omega
   have HO : Hid (wr.ownsRow w.heap.size 31 2 (.slice va k vc) k xs) := hO
   have HX : Hid (∀ u ∈ xs, ∃ z : Int, u = .int .i64 z) := hX
   have HD : Hid (Drawn w0 w B a n c wr) := hD
   clear hO hX hD
   go_wp2
   go_ret
   exact ⟨_, _, rfl, HO.out, HX.out, HD.out⟩

set_option maxRecDepth 100000 in
set_option maxHeartbeats 4000000 in
theorem drawAny_any (B : Nat) (a : Option Addr) (n c : Nat) (w0 w : World) (hb : Bel w0 w) (hB : w0.heap.size ≤ B) (hC : Cur w B a n c) (hS : Bts w0 a n) (hn : n ≤ 1048576) :
  Calls Try.prog 24 #[.pointer (some ⟨B, 0, none⟩)] w fun e w' => ∃ (v : Value) (m : Nat) (xs : List Value), e = .returned v ∧ m ≤ 2001 ∧ w'.ownsRow w.heap.size 31 2 v m xs ∧ (∀ u ∈ xs, ∃ z : Int, u = .int .i64 z) ∧ Drawn w0 w B a n c w' := by
 have hB1 : B < w.heap.size := hC.lt
 have hmk : ∀ (s : Nat) (w : World), s ≤ 2001 → (Instr.makeSlice 24 (.int .i64 s) (.int .i64 s)).run Try.prog w = .ok (.slice (some ⟨w.heap.size, 0, none⟩) s s) (w.alloc (.cells (madeCells #[.int .i64 0, .int .i64 0] (s * 2)) 31)) := fun s w hs => by
  obtain ⟨i0, hi, hz0, hz1, hz2⟩ := infoX_parts
  have := run_make (P := Try.prog) w 24 31 i0 (.agg #[.int .i64 0, .int .i64 0]) Try.underlying24 hi hz0 .i64 .i64 s s (by omega) (by omega) (by rw [hz2]; omega) (by omega)
  rw [hz1] at this
  exact this
 go_enter Try.func24, Try.ntmps24
 go_wp2_with fail
 refine (below_any B a n c w0 w hb hB hC hS hn 9 (by decide) (by decide)).mono ?_
 rintro e w1 ⟨t, rfl, ⟨t0, t1⟩, d1⟩
 obtain ⟨m, rfl⟩ : ∃ m : Nat, t = m := ⟨t.toNat, by omega⟩
 go_wp2_with fail
 refine (drawRow_any B a n c w0 w1 d1.b hB d1.k hS hn m (by omega)).mono ?_
 rintro e w2 ⟨v, xs, rfl, hO, hX, d2⟩
 have hO : w2.ownsRow w.heap.size 31 2 v m xs := own_low hO d1.o.size
 have D2 := d1.then d2
 obtain ⟨va, vc, rfl⟩ := own_form hO
 clear d1 d2
 go_wp2_with fail
 refine (once_any B a n c w0 w2 D2.b hB D2.k hS hn 100 (by decide) (by decide)).mono ?_
 rintro e w3 ⟨t, rfl, d3⟩
 cases t
 ·have HO : Hid (w3.ownsRow w.heap.size 31 2 (.slice va m vc) m xs) := own_drawn hO d3 hB1
  have HD : Hid (Drawn w0 w B a n c w3) := D2.then d3
  have HX : Hid (∀ u ∈ xs, ∃ z : Int, u = .int .i64 z) := hX
  clear hO hX D2 d3 hmk
  go_wp2
  go_ret
  exact ⟨_, m, _, rfl, by omega, HO.out, HX.out, HD.out⟩
 ·have D3 := D2.then d3
  clear hO hX D2 d3
  go_wp2_with fail
  refine (below_any B a n c w0 w3 D3.b hB D3.k hS hn 2 (by decide) (by decide)).mono ?_
  rintro e w4 ⟨s, rfl, ⟨s0, s1⟩, d4⟩
  have D4 := D3.then d4
  clear D3 d4
  obtain ⟨r, Hr⟩ : ∃ r : Nat, Hid ((2000 : Int) + s = r) := ⟨(2000 + s).toNat, by show (2000 : Int) + s = _; omega⟩
  have hr : r ≤ 2001 := by have := Hr.out; omega
  have hw : wrap64 (2000 + s) = (r : Int) := by have := Hr.out; unfold wrap64; omega
  have hw2 : (2000 : Int) + s = (r : Int) := Hr.out
  have hmk2 := hmk r w4 hr
  have HD : Hid (Drawn w0 w B a n c (w4.alloc (.cells (madeCells #[.int .i64 0, .int .i64 0] (r * 2)) 31))) := D4.bel (bel_alloc (Bel.refl _) _)
  have HO : Hid ((w4.alloc (.cells (madeCells #[.int .i64 0, .int .i64 0] (r * 2)) 31)).ownsRow w.heap.size 31 2 (.slice (some ⟨w4.heap.size, 0, none⟩) r r) r (madeCells #[.int .i64 0, .int .i64 0] (r * 2)).toList) := World.ownsRow_lit w4 _ r D4.o.size (by unfold maxLen; omega) (by simp [madeCells])
  have HX : Hid (∀ u ∈ (madeCells #[Value.int .i64 0, .int .i64 0] (r * 2)).toList, ∃ z : Int, u = .int .i64 z) := fun u hu => by
   simp only [madeCells, Array.toList_map, List.mem_map] at hu
   obtain ⟨i, _, rfl⟩ := hu
   refine ⟨0, ?_⟩
   show (#[Value.int .i64 0, .int .i64 0] : Array Value)[i % 2]! = _
   rcases (show i % 2 = 0 ∨ i % 2 = 1 by omega) with h | h <;> rw [h] <;> rfl
  clear hmk D4
  go_wp2
  go_ret
  exact ⟨_, r, _, rfl, hr, HO.out, HX.out, HD.out⟩
end Go.Proofs.Ytkmccjjghpnejaa
