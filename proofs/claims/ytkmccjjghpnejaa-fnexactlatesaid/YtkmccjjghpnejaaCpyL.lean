/-
  Copies of a timetable's lists, in the program: stops, walks, calls anew; a trip told, all trips told. Contracts.
-/
import Derived.Test.YtkmccjjghpnejaaLinL
import Derived.Test.YtkmccjjghpnejaaCopyC
import Derived.Test.YtkmccjjghpnejaaGE
import Derived.Test.YtkmccjjghpnejaaGC
import Derived.Deep.AppendLies
namespace Go.Proofs.Ytkmccjjghpnejaa
open Go.RowKit Go.Maps

def strP (d : ByteArray) : Prop := d.size ≤ maxLen
def strCs (d : ByteArray) : List Value := [.string d]
theorem strF : Flat 1 StrE strP strCs :=
 ⟨fun _ => rfl, fun _ u hu => by simp only [strCs, List.mem_cons, List.not_mem_nil, or_false] at hu; subst hu; rfl,
  fun ⟨_, h0, c0⟩ => ⟨h0, fun j hj => by match j, hj with | 0, _ => exact c0⟩,
  fun hp hc => ⟨rfl, hp, hc 0 (by simp [strCs])⟩⟩
def calP (d : CalD) : Prop := In64 d.stop ∧ In64 d.arr ∧ In64 d.dep
def calCs (d : CalD) : List Value := [.int .i64 d.stop, .int .i64 d.arr, .int .i64 d.dep]
theorem calF : Flat 3 CalE calP calCs :=
 ⟨fun _ => rfl, fun _ u hu => by simp only [calCs, List.mem_cons, List.not_mem_nil, or_false] at hu; rcases hu with rfl | rfl | rfl <;> rfl,
  fun ⟨_, h0, h1, h2, c0, c1, c2⟩ => ⟨⟨h0, h1, h2⟩, fun j hj => by match j, hj with | 0, _ => exact c0 | 1, _ => exact c1 | 2, _ => exact c2⟩,
  fun hp hc => ⟨rfl, hp.1, hp.2.1, hp.2.2, hc 0 (by simp [calCs]), hc 1 (by simp [calCs]), hc 2 (by simp [calCs])⟩⟩
def wlkP (d : WlkD) : Prop := In64 d.fr ∧ In64 d.tt ∧ In64 d.time
def wlkCs (d : WlkD) : List Value := [.int .i64 d.fr, .int .i64 d.tt, .int .i64 d.time]
theorem wlkF : Flat 3 WlkE wlkP wlkCs :=
 ⟨fun _ => rfl, fun _ u hu => by simp only [wlkCs, List.mem_cons, List.not_mem_nil, or_false] at hu; rcases hu with rfl | rfl | rfl <;> rfl,
  fun ⟨_, h0, h1, h2, c0, c1, c2⟩ => ⟨⟨h0, h1, h2⟩, fun j hj => by match j, hj with | 0, _ => exact c0 | 1, _ => exact c1 | 2, _ => exact c2⟩,
  fun hp hc => ⟨rfl, hp.1, hp.2.1, hp.2.2, hc 0 (by simp [wlkCs]), hc 1 (by simp [wlkCs]), hc 2 (by simp [wlkCs])⟩⟩

theorem infoLStr : (Try.prog.info? 9).map (fun i => (i.zero, i.size, i.bytes)) = some (some (.string ⟨#[]⟩), 1, 16) := by kernel_rfl
set_option maxHeartbeats 1000000 in
theorem freshStr_to (a : Option Addr) (n c : Nat) (l : List ByteArray) (bs : List Nat) (W0 w : World) (h0W : Bel W0 w) (hT : StrL w a l bs) (hn : l.length = n) (hm : n ≤ 1048576) :
  Calls Try.prog 67 #[.slice a n c] w fun e w' => ∃ a' c' bs', e = .returned (.slice a' n c') ∧ StrL w' a' l bs' ∧ Fresh w w' bs' ∧ Bel W0 w' ∧ Bel w w' := by
 obtain ⟨i0, hi0, hz0, hz1, hz2⟩ := info_parts infoLStr
 have hown0 : w.ownsRow w.heap.size 9 1 (.slice none 0 0) 0 [] := World.ownsRow_nil _ _ _ _
 go_enter Try.func67, Try.ntmps67
 go_wp2_with (first
  | (at_builtin; refine wpList_append_flat strF (by decide) rfl _ _ 39 rfl w.heap.size 9 i0 (.string ⟨#[]⟩) 16 Try.underlying39 hi0 hz0 hz1 hz2 rfl _ rfl hown0 a n c l bs rfl hT hn hm (by decide) (Nat.le_refl _) ?_)
  | go_in)
 intro a' c' bs' w3 HS HM hgrow
 have hB : Bel w w3 := bel_grow (Bel.refl _) hgrow (fun j e => by cases e)
 clear hgrow
 go_wp2
 go_ret
 exact ⟨_, _, bs', rfl, HS, HM.fresh (Nat.le_refl _), bel_step h0W hB, hB⟩

theorem infoLCal : (Try.prog.info? 108).map (fun i => (i.zero, i.size, i.bytes)) = some (some (.agg #[.int .i64 0, .int .i64 0, .int .i64 0]), 3, 24) := by kernel_rfl
set_option maxHeartbeats 1000000 in
theorem freshCal_to (a : Option Addr) (n c : Nat) (l : List CalD) (bs : List Nat) (W0 w : World) (h0W : Bel W0 w) (hT : CalL w a l bs) (hn : l.length = n) (hm : n ≤ 1048576) :
  Calls Try.prog 99 #[.slice a n c] w fun e w' => ∃ a' c' bs', e = .returned (.slice a' n c') ∧ CalL w' a' l bs' ∧ Fresh w w' bs' ∧ Bel W0 w' ∧ Bel w w' := by
 obtain ⟨i0, hi0, hz0, hz1, hz2⟩ := info_parts infoLCal
 have hown0 : w.ownsRow w.heap.size 108 3 (.slice none 0 0) 0 [] := World.ownsRow_nil _ _ _ _
 go_enter Try.func99, Try.ntmps99
 go_wp2_with (first
  | (at_builtin; refine wpList_append_flat calF (by decide) rfl _ _ 90 rfl w.heap.size 108 i0 (.agg #[.int .i64 0, .int .i64 0, .int .i64 0]) 24 Try.underlying90 hi0 hz0 hz1 hz2 rfl _ rfl hown0 a n c l bs rfl hT hn hm (by decide) (Nat.le_refl _) ?_)
  | go_in)
 intro a' c' bs' w3 HS HM hgrow
 have hB : Bel w w3 := bel_grow (Bel.refl _) hgrow (fun j e => by cases e)
 clear hgrow
 go_wp2
 go_ret
 exact ⟨_, _, bs', rfl, HS, HM.fresh (Nat.le_refl _), bel_step h0W hB, hB⟩

theorem infoLWlk : (Try.prog.info? 94).map (fun i => (i.zero, i.size, i.bytes)) = some (some (.agg #[.int .i64 0, .int .i64 0, .int .i64 0]), 3, 24) := by kernel_rfl
set_option maxHeartbeats 1000000 in
theorem freshWlk_to (a : Option Addr) (n c : Nat) (l : List WlkD) (bs : List Nat) (W0 w : World) (h0W : Bel W0 w) (hT : WlkL w a l bs) (hn : l.length = n) (hm : n ≤ 1048576) :
  Calls Try.prog 70 #[.slice a n c] w fun e w' => ∃ a' c' bs', e = .returned (.slice a' n c') ∧ WlkL w' a' l bs' ∧ Fresh w w' bs' ∧ Bel W0 w' ∧ Bel w w' := by
 obtain ⟨i0, hi0, hz0, hz1, hz2⟩ := info_parts infoLWlk
 have hown0 : w.ownsRow w.heap.size 94 3 (.slice none 0 0) 0 [] := World.ownsRow_nil _ _ _ _
 go_enter Try.func70, Try.ntmps70
 go_wp2_with (first
  | (at_builtin; refine wpList_append_flat wlkF (by decide) rfl _ _ 47 rfl w.heap.size 94 i0 (.agg #[.int .i64 0, .int .i64 0, .int .i64 0]) 24 Try.underlying47 hi0 hz0 hz1 hz2 rfl _ rfl hown0 a n c l bs rfl hT hn hm (by decide) (Nat.le_refl _) ?_)
  | go_in)
 intro a' c' bs' w3 HS HM hgrow
 have hB : Bel w w3 := bel_grow (Bel.refl _) hgrow (fun j e => by cases e)
 clear hgrow
 go_wp2
 go_ret
 exact ⟨_, _, bs', rfl, HS, HM.fresh (Nat.le_refl _), bel_step h0W hB, hB⟩

set_option maxRecDepth 100000 in
set_option maxHeartbeats 2000000 in
theorem tripTold_any (s : ByteArray) (x : Int) (a : Option Addr) (n c : Nat) (l : List CalD) (bs : List Nat) (W0 w : World) (h0W : Bel W0 w) (hT : CalL w a l bs) (hn : l.length = n) (hm : n ≤ 1048576) :
  Calls Try.prog 69 #[.agg #[.string s, .int .i64 x, .slice a n c]] w fun e w' => ∃ a' c' bs', e = .returned (.agg #[.string s, .int .i64 x, .slice a' n c']) ∧ CalL w' a' l bs' ∧ Fresh W0 w' bs' ∧ Bel w w' := by
 obtain ⟨W1, HW1⟩ : ∃ W, Hid (W = w.alloc (.cells #[.string s, .int .i64 x, .slice a n c] 92)) := ⟨_, (rfl : w.alloc (.cells #[.string s, .int .i64 x, .slice a n c] 92) = _)⟩
 have hB1 : Bel w W1 := by rw [HW1.out]; exact bel_alloc (Bel.refl _) _
 have hs1 : W1.heap.size = w.heap.size + 1 := by rw [HW1.out]; simp
 have X1 : Blk W1 w.heap.size [.string s, .int .i64 x, .slice a n c] := by rw [HW1.out]; exact Blk.new w [.string s, .int .i64 x, .slice a n c] _
 obtain ⟨W2, HW2⟩ : ∃ W, Hid (W = W1.alloc (.cells #[.string ⟨#[]⟩, .int .i64 0, .slice none 0 0] 92)) := ⟨_, (rfl : W1.alloc (.cells #[.string ⟨#[]⟩, .int .i64 0, .slice none 0 0] 92) = _)⟩
 have hB2 : Bel W1 W2 := by rw [HW2.out]; exact bel_alloc (Bel.refl _) _
 have hs2 : W2.heap.size = w.heap.size + 1 + 1 := by rw [HW2.out]; simp [hs1]
 have X2 : Blk W2 (w.heap.size + 1) [.string ⟨#[]⟩, .int .i64 0, .slice none 0 0] := by rw [HW2.out, ← hs1]; exact Blk.new W1 [.string ⟨#[]⟩, .int .i64 0, .slice none 0 0] _
 have g0 : So W1 (w.heap.size + 1) 3 W2 := ⟨hB2, _, rfl, X2⟩
 have hR : ∀ w', So W1 (w.heap.size + 1) 3 w' → w'.cell? ⟨w.heap.size, 0, none⟩ = some (.string s) ∧ w'.cell? ⟨w.heap.size, 1, none⟩ = some (.int .i64 x) ∧ w'.cell? ⟨w.heap.size, 2, none⟩ = some (.slice a n c) ∧ w'.frozen? ⟨w.heap.size + 1, 0, none⟩ = false ∧ w'.frozen? ⟨w.heap.size + 1, 1, none⟩ = false ∧ w'.frozen? ⟨w.heap.size + 1, 2, none⟩ = false :=
  fun w' h => by obtain ⟨vs, _, r⟩ := h.r; exact ⟨(X1.bel h.b).cell 0 (by simp), (X1.bel h.b).cell 1 (by simp), (X1.bel h.b).cell 2 (by simp), r.free _, r.free _, r.free _⟩
 have hT1 : ∀ w', So W1 (w.heap.size + 1) 3 w' → CalL w' a l bs := fun w' h => (hT.bel calE hB1).bel calE h.b
 have hle : W1.heap.size ≤ w.heap.size + 1 := Nat.le_of_eq hs1
 have HNo : Hid (∀ b5 w5, Fresh W2 w5 b5 → w.heap.size + 1 ∉ b5) := fun b5 w5 F hx => by have := (F.new _ hx).1; omega
 clear hT X1 X2
 go_enter Try.func69, Try.ntmps69
 go_wp2
 rw [← HW1.out, ← HW2.out]
 go_region_held3 (fun w' => So W1 (w.heap.size + 1) 3 w') (with_reducible (repeat (first | assumption | exact g0 | refine So.drew ?_ | refine So.set ?_ hle _ (by decide) _ | refine So.bel (by assumption) (by assumption))))
  (first
   | (go_at_call 99; refine (freshCal_to _ _ _ l bs W2 _ (by with_reducible (repeat (first | exact Bel.refl _ | refine Bel.drew ?_))) (hT1 _ (by assumption)) hn hm).mono ?_; rintro e w5 ⟨a5, c5, b5, rfl, T5, F5, _, hb5⟩; obtain ⟨vs5, len5, R5⟩ := (So.bel (W := W1) (B := w.heap.size + 1) (n := 3) (by assumption) hb5).r; have c0 : w5.cell? ⟨w.heap.size + 1, 0, none⟩ = some vs5[0] := R5.cell 0 (by omega); have c1 : w5.cell? ⟨w.heap.size + 1, 1, none⟩ = some vs5[1] := R5.cell 1 (by omega); have c2 : w5.cell? ⟨w.heap.size + 1, 2, none⟩ = some vs5[2] := R5.cell 2 (by omega)))
 have F5 := F5.old (v := W2) (by with_reducible (first | exact Nat.le_refl _ | exact (Bel.drew (Bel.refl _)).out.size))
 have hF : So W1 (w.heap.size + 1) 3 (setRow w5 (w.heap.size + 1) 0 [.string s, .int .i64 x, .slice a5 n c5]) := by assumption
 have hAl : Alike w5 (setRow w5 (w.heap.size + 1) 0 [.string s, .int .i64 x, .slice a5 n c5]) b5 := setRow_far _ (T5.lt calE) (HNo.out _ _ F5)
 have HT : Hid (CalL (setRow w5 (w.heap.size + 1) 0 [.string s, .int .i64 x, .slice a5 n c5]) a5 l b5) := T5.alike calE hAl
 have HF : Hid (Fresh W0 (setRow w5 (w.heap.size + 1) 0 [.string s, .int .i64 x, .slice a5 n c5]) b5) := (F5.alike hAl).old (Nat.le_trans h0W.out.size (by omega))
 have hB : Bel w (setRow w5 (w.heap.size + 1) 0 [.string s, .int .i64 x, .slice a5 n c5]) := bel_step hB1 hF.b
 clear T5 F5 hb5 hAl hF hR hT1 g0 R5
 go_wp2
 exact bodyPost_ret (v := .agg #[.string s, .int .i64 x, .slice a5 n c5]) (by simp [results, Try.results69, go_sem, c0, c1, c2]) rfl ⟨_, _, b5, rfl, HT.out, HF.out, hB⟩

def TrpV : VElem TrpD := fun w vs d bs => d.line.size ≤ maxLen ∧ In64 d.days ∧ d.calls.length ≤ maxLen ∧ ∃ a c, vs = [.string d.line, .int .i64 d.days, .slice a d.calls.length c] ∧ CalL w a d.calls bs
theorem trpV : VStays 3 TrpE TrpV :=
 ⟨fun ⟨_, _, _, a, c, e, _⟩ => by rw [e]; rfl, fun ⟨_, _, _, a, c, e, _⟩ u hu => by
   subst e; simp only [List.mem_cons, List.not_mem_nil, or_false] at hu; rcases hu with rfl | rfl | rfl <;> rfl,
  fun ⟨h2, h3, h4, a, c, e, h5⟩ hA => ⟨h2, h3, h4, a, c, e, h5.alike calE hA⟩, fun ⟨_, _, _, a, c, e, h5⟩ => h5.lt calE,
  fun ⟨h2, h3, h4, a, c, e, h5⟩ hc => by subst e; exact ⟨h2, h3, hc 0 (by simp), hc 1 (by simp), a, c, h4, hc 2 (by simp), h5⟩⟩
theorem infoTrp : (Try.prog.info? 92).map (fun i => (i.zero, i.size, i.bytes)) = some (some (.agg #[.string ⟨#[]⟩, .int .i64 0, .slice none 0 0]), 3, 48) := by kernel_rfl
/-- The first k trips. -/
def trT (l : List TrpD) (k : Nat) : List TrpD := l.take k
theorem trT_len {l : List TrpD} {k : Nat} (h : k ≤ l.length) : (trT l k).length = k := by unfold trT; rw [List.length_take]; omega
theorem trT_succ {l : List TrpD} {k : Nat} (h : k < l.length) : trT l (k + 1) = trT l k ++ [l[k]] := List.take_succ_eq_append_getElem h
theorem trT_all {l : List TrpD} {k : Nat} (h : l.length ≤ k) : trT l k = l := List.take_of_length_le h
theorem trT_zero (l : List TrpD) : trT l 0 = [] := rfl
theorem hatL {v : Value} {g n c H : Nat} (h : v.ownBlock = some g ∨ g = H) : (Value.slice (some ⟨g, 0, none⟩) n c).ownBlock = v.ownBlock ∨ (Value.slice (some ⟨g, 0, none⟩) n c).ownBlock = some H := by
 rcases h with h | h
 ·left; rw [h]; rfl
 ·right; rw [h]; rfl

set_option maxRecDepth 100000 in
set_option maxHeartbeats 2000000 in
theorem eachTrp_to (a : Option Addr) (n c : Nat) (l : List TrpD) (bs : List Nat) (W0 w : World) (h0W : Bel W0 w) (hT : TrpL w a l bs) (hn : l.length = n) (hm : n ≤ 1048576) (hs : ∀ i (h : i < l.length), l[i].calls.length ≤ 1048576) :
  Calls Try.prog 68 #[.slice a n c, .func (.func 69) #[] #[]] w fun e w' => ∃ a' c' bs', e = .returned (.slice a' n c') ∧ TrpL w' a' l bs' ∧ Fresh w w' bs' ∧ Bel W0 w' ∧ Bel w w' := by
 obtain ⟨i0, hi0, hz0, hz1, hz2⟩ := info_parts infoTrp
 have Hn : Hid (l.length = n) := hn
 have HS : Hid (∀ i (h : i < l.length), l[i].calls.length ≤ 1048576) := hs
 clear hn hs
 go_enter Try.func68, Try.ntmps68
 go_wp2
 go_loopw [5, 7, 10] (fun o _ i wr => ∃ (k : Nat) (R : Nat → List Value) (f : Nat → List Nat), k ≤ n ∧ i = .int .i64 k ∧ Gr 3 TrpV 92 w.heap.size wr o (trT l k) R f ∧ Bel w wr) (fun _ _ i _ => n - (intOf i).toNat)
 case atStart => exact ⟨0, _, _, Nat.zero_le _, rfl, Gr.nil 3 TrpV 92 _ _, Bel.refl _⟩
 case round =>
  obtain ⟨k, R, f0, hk, rfl, hG, hBr⟩ := hrel
  obtain ⟨va, vc, rfl⟩ := own_shape hG.own
  have HLK : Hid ((trT l k).length = k) := trT_len (by rw [Hn.out]; exact hk)
  have HG : Hid (Gr 3 TrpV 92 w.heap.size wr (.slice va (trT l k).length vc) (trT l k) R f0) := hG
  clear hG
  by_cases hlt : k < n
  ·have hkl : k < l.length := by rw [Hn.out]; exact hlt
   obtain ⟨b, off, f, rfl, hb, hx⟩ := (hT.bel trpE hBr).out hkl
   obtain ⟨z0, z1, c0, c1, a0, k0, ml, c2, t0⟩ := hx k hkl
   have HE : Hid (trT l (k + 1) = trT l k ++ [l[k]]) := trT_succ hkl
   have hr1 := HS.out k hkl
   obtain ⟨d, Hd⟩ : ∃ d, Hid (l[k] = d) := ⟨_, (rfl : l[k] = _)⟩
   rw [Hd.out] at HE ml c0 c1 c2 t0 hr1 z0 z1
   have hlt' : (k : Int) < (n : Int) := by omega
   have t1 := t0.bel calE (bel_alloc (Bel.refl wr) (.cells #[.string d.line, .int .i64 d.days, .slice a0 d.calls.length k0] 92))
   have hV1 := bel_alloc (Bel.refl wr) (.cells #[.string d.line, .int .i64 d.days, .slice a0 d.calls.length k0] 92)
   clear hx
   go_wp2_with fail
   refine (tripTold_any _ _ _ _ _ d.calls _ _ _ (Bel.refl _) t1 rfl hr1).mono ?_
   rintro e w4 ⟨a4, c4, b4, rfl, T4, F4, hb4⟩
   have h04 : Bel wr w4 := bel_step hV1 hb4
   have F04 : Fresh wr w4 b4 := F4.old hV1.out.size
   have HV : Hid (TrpV w4 [.string d.line, .int .i64 d.days, .slice a4 d.calls.length c4] d b4) := (⟨z0, z1, ml, a4, c4, rfl, T4⟩ : TrpV w4 _ d b4)
   have hown2 := World.ownsRow.alloc (own_bel HG.out.own h04) (.cells #[.string d.line, .int .i64 d.days, .slice a4 d.calls.length c4] 92)
   have hBa := bel_alloc (bel_step hBr h04) (.cells #[.string d.line, .int .i64 d.days, .slice a4 d.calls.length c4] 92)
   have hB4 := bel_step hBr h04
   clear t0 t1 T4 F4 hb4 c0 c1 c2 hV1
   go_wp2_with (first
    | (at_builtin; refine wpList_append_lies _ rfl _ _ 46 rfl w.heap.size 92 i0 (.agg #[.string ⟨#[]⟩, .int .i64 0, .slice none 0 0]) 3 48 Try.underlying46 hi0 hz0 hz1 hz2 rfl (by decide) _ _ _ rfl hown2 ⟨w4.heap.size, 0, none⟩ 1 1 [.string d.line, .int .i64 d.days, .slice a4 d.calls.length c4] rfl rfl ?c1 ?c2 (by decide) ?c3 ?c4 ?c5 (w4.heap.size + 1) ?c6 ?_)
    | go_in)
   case c1 =>
    intro j u hj
    match j, hj with
    | 0, hj => simp at hj; subst hj; simp [Addr.add]
    | 1, hj => simp at hj; subst hj; simp [Addr.add]
    | 2, hj => simp at hj; subst hj; simp [Addr.add]
   case c2 =>
    intro u hu
    simp at hu
    rcases hu with rfl | rfl | rfl <;> rfl
   case c3 => have := HLK.out; unfold maxLen; omega
   case c4 => have := HLK.out; omega
   case c5 => have := hB4.out.size; simp; omega
   case c6 => simp
   intro g cap w5 hown' hgrow hat _
   have HG5 : Hid (∃ R' f', Gr 3 TrpV 92 w.heap.size w5 (.slice (some ⟨g, 0, none⟩) ((trT l k).length + 1) cap) (trT l (k + 1)) R' f') := by
    have hat' : (Value.slice va (trT l k).length vc).ownBlock = some g ∨ g = (w4.alloc (.cells #[.string d.line, .int .i64 d.days, .slice a4 d.calls.length c4] 92)).heap.size := by simpa using hat
    have := Gr.add trpV HG.out h04 (bel_alloc (Bel.refl w4) (.cells #[.string d.line, .int .i64 d.days, .slice a4 d.calls.length c4] 92)) HV.out F04 hBr.out.size hown' hgrow (hatL hat')
    rw [HE.out]
    exact ⟨_, _, this⟩
   have hB5 : Bel w w5 := bel_grow hBa hgrow (fun j e => (hown2.lt j e).1)
   clear hown' hgrow hown2 hBa HG hat HV F04 h04 hB4
   go_wp2
   go_roundw
   case rel =>
    obtain ⟨R', f', G'⟩ := HG5.out
    exact ⟨k + 1, R', f', by omega, by go_num, G', hB5⟩
   case measure => simp [intOf]; omega
  ·have e : n = k := by omega
   subst e
   have HO := Gr.out trpV HG.out
   have HT : Hid (trT l n = l) := trT_all (by rw [Hn.out]; exact Nat.le_refl _)
   rw [HLK.out]
   obtain ⟨a', c', bs', e', hS, hM⟩ := HO
   rw [HLK.out] at e'
   obtain ⟨rfl, rfl⟩ : va = a' ∧ vc = c' := by simpa using e'
   have HS2 : Hid (TrpL wr va l bs') := by rw [HT.out] at hS; exact hS
   have hF := hM.fresh (w := w) (Nat.le_refl _)
   clear hS e' HG hM
   go_wp2
   go_ret
   exact ⟨_, _, bs', rfl, HS2.out, hF, bel_step h0W hBr, hBr⟩
end Go.Proofs.Ytkmccjjghpnejaa
