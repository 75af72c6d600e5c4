/-
  Contract of numbersBy by distances: how two keys compare; the key of a point.
  Contract of numbersBy by distances: the numbers of a row of points, the nearest first, of the same the first first.
-/
import Derived.Test.YtkinpfnelmdmlaaDoorSrtS
import Derived.Test.YtkinpfnelmdmlaaDoorDistC
import Derived.Test.YtkinpfnelmdmlaaDoorPtsC
import Derived.Test.YtkinpfnelmdmlaaDoorMem
namespace Go.Proofs.YtkinpfnelmdmlaaDoor
open Go.RowKit Go.Maps Go.Shelf

theorem isNaN_anyX (x : Int) (w : World) : Calls Tryd.prog 44 #[.int .i64 x] w fun e w' => e = .returned (.bool false) ∧ w' = w := by
  go_enter Tryd.func44, Tryd.ntmps44
  go_wp2
  go_ret
  exact ⟨by simp, rfl⟩
set_option maxHeartbeats 1000000 in
theorem compare_anyX (x y : Int) (w : World) : Calls Tryd.prog 41 #[.int .i64 x, .int .i64 y] w fun e w' => e = .returned (.int .i64 (cmz x y)) ∧ w' = w := by
  by_cases h1 : x < y
  · have HZ : Hid (cmz x y = -1) := if_pos h1
    go_enter Tryd.func41, Tryd.ntmps41
    go_wp2_with (first | (go_at_call 44; refine (isNaN_anyX _ _).mono ?_; rintro e w' ⟨rfl, rfl⟩))
    go_ret
    exact ⟨by rw [HZ.out]; rfl, rfl⟩
  · by_cases h2 : y < x
    · have HZ : Hid (cmz x y = 1) := (by unfold cmz; rw [if_neg h1, if_pos h2] : cmz x y = 1)
      go_enter Tryd.func41, Tryd.ntmps41
      go_wp2_with (first | (go_at_call 44; refine (isNaN_anyX _ _).mono ?_; rintro e w' ⟨rfl, rfl⟩))
      go_ret
      exact ⟨by rw [HZ.out]; rfl, rfl⟩
    · have HZ : Hid (cmz x y = 0) := (by unfold cmz; rw [if_neg h1, if_neg h2] : cmz x y = 0)
      go_enter Tryd.func41, Tryd.ntmps41
      go_wp2_with (first | (go_at_call 44; refine (isNaN_anyX _ _).mono ?_; rintro e w' ⟨rfl, rfl⟩))
      go_ret
      exact ⟨by rw [HZ.out]; rfl, rfl⟩

/-- The keys, block k0, and the variable that leads to them, block k1. -/
structure KeysX (w : World) (k0 k1 n : Nat) (K : Nat → Int) : Prop where
  row : w.rowIs k0 2 n (fun i => .int .i64 (K i))
  var : Blk w k1 [.slice (some ⟨k0, 0, none⟩) n n]
theorem KeysX.bel {w w' : World} {k0 k1 n : Nat} {K : Nat → Int} (h : KeysX w k0 k1 n K) (hb : Bel w w') : KeysX w' k0 k1 n K := ⟨h.row.of_block (hb.out.block k0 h.row.lt), h.var.bel hb⟩
theorem KeysX.onl {w w' : World} {k0 k1 n : Nat} {K : Nat → Int} (h : KeysX w k0 k1 n K) {B : Nat} (O : Onl [B] w w') (h0 : k0 ≠ B) (h1 : k1 ≠ B) : KeysX w' k0 k1 n K :=
  ⟨h.row.of_block (O.block k0 h.row.lt (by simpa using h0)), ⟨Nat.lt_of_lt_of_le h.var.lt O.size, fun i hi => by rw [World.cell?_of_block (a := ⟨k1, i, none⟩) (O.block k1 h.var.lt (by simpa using h1))]; exact h.var.cell i hi, fun i => by rw [World.frozen?_of_block (a := ⟨k1, i, none⟩) (O.block k1 h.var.lt (by simpa using h1))]; exact h.var.free i⟩⟩

set_option maxRecDepth 100000 in
set_option maxHeartbeats 1000000 in
theorem keyLess_anyX (k0 k1 n : Nat) (K : Nat → Int) (w : World) (hK : KeysX w k0 k1 n K) (x y : Nat) (hx : x < n) (hy : y < n) :
    Calls Tryd.prog 40 #[.int .i64 x, .int .i64 y, .pointer (some ⟨k1, 0, none⟩)] w fun e w' => e = .returned (.int .i64 (cmz (K x) (K y))) ∧ Bel w w' := by
  have g0 : Bel w w := Bel.refl _
  have hR : ∀ w', Bel w w' → w'.cell? ⟨k1, 0, none⟩ = some (.slice (some ⟨k0, 0, none⟩) n n) ∧ w'.cell? ⟨k0, x, none⟩ = some (.int .i64 (K x)) ∧ w'.cell? ⟨k0, y, none⟩ = some (.int .i64 (K y)) := fun w' h =>
    ⟨(hK.bel h).var.cell 0 (by simp), (hK.bel h).row.cell hx, (hK.bel h).row.cell hy⟩
  have hx' : (x : Int) < (n : Int) := by omega
  have hy' : (y : Int) < (n : Int) := by omega
  go_enter Tryd.func40, Tryd.ntmps40
  go_wp2
  go_region_held3 (fun w' => Bel w w') (with_reducible (repeat (first | exact g0 | refine Bel.drew ?_ | assumption)))
    (first
      | (go_at_call 41; refine (compare_anyX _ _ _).mono ?_; rintro e w' ⟨rfl, rfl⟩))
  go_wp2
  go_ret
  exact ⟨rfl, by assumption⟩
theorem keyLess_cmpX {W : World} {B k0 k1 n : Nat} {K : Nat → Int} (hK : KeysX W k0 k1 n K) (h0 : k0 ≠ B) (h1 : k1 ≠ B) : CmpK W B n K 40 (.pointer (some ⟨k1, 0, none⟩)) :=
  fun _ w hS x y hx hy => keyLess_anyX k0 k1 n K w (hK.onl hS.onl h0 h1) x y hx hy

/-- The square of the distance from the point whose box is block B. -/
theorem sqKey_any (px py x y : Int) (B : Nat) (w : World) (hB : Blk w B [.int .i64 px, .int .i64 py]) (hp : POk px py) (hx : POk x y) :
    Calls Tryd.prog 27 #[pt x y, .pointer (some ⟨B, 0, none⟩)] w fun e w' => e = .returned (.int .i64 (dsq px py x y)) ∧ Bel w w' := by
  obtain ⟨p0, p1, p2, p3⟩ := hp
  obtain ⟨x0, x1, x2, x3⟩ := hx
  have hl := hB.lt
  have c0 := hB.cell 0 (by simp)
  have c1 := hB.cell 1 (by simp)
  simp only [List.getElem_cons_zero, List.getElem_cons_succ] at c0 c1
  have hb0 : Bel w (w.alloc (.cells #[.int .i64 x, .int .i64 y] 26)) := bel_alloc (Bel.refl _) _
  have hxx := mul_bd7 (u := x - px) (v := x - px) (by omega) (by omega) (by omega) (by omega)
  have hyy := mul_bd7 (u := y - py) (v := y - py) (by omega) (by omega) (by omega) (by omega)
  go_enter Tryd.func27, Tryd.ntmps27
  go_wp2_with fail
  refine (minus_any _ _ _ _ _ ⟨x0, x1, x2, x3⟩ ⟨p0, p1, p2, p3⟩).mono ?_
  rintro e w1 ⟨rfl, hb1⟩
  go_wp2_with fail
  refine (dot_any _ _ _ _ _ hxx.1 hxx.2 hyy.1 hyy.2).mono ?_
  rintro e w2 ⟨rfl, hb2⟩
  go_wp2
  go_ret
  exact ⟨rfl, bel_step (bel_alloc (bel_step hb0 hb1) _) hb2⟩
end Go.Proofs.YtkinpfnelmdmlaaDoor

namespace Go.Proofs.YtkinpfnelmdmlaaDoor
open Go.RowKit Go.Maps Go.Shelf

theorem infoNX : (Tryd.prog.info? 2).map (fun i => (i.zero, i.size, i.bytes)) = some (some (.int .i64 0), 1, 8) := by kernel_rfl
/-- The keys and the numbers so far. -/
def kyVX (K : Nat → Int) (k i : Nat) : Value := .int .i64 (if i < k then K i else 0)
def nbVX (k i : Nat) : Value := .int .i64 (if i < k then (i : Int) else 0)
structure NumSX (w : World) (k0 n : Nat) (K : Nat → Int) (k : Nat) (wr : World) : Prop where
  keys : wr.rowIs k0 2 n (kyVX K k)
  var : Blk wr (k0 + 1) [.slice (some ⟨k0, 0, none⟩) n n]
  nums : wr.rowIs (k0 + 1 + 1) 2 n (nbVX k)
  bel : Bel w wr
/-- While round k goes on: all but the two cells that it writes is known. -/
structure NumQX (V : World) (k0 n : Nat) (K : Nat → Int) (k : Nat) (w' : World) : Prop where
  onl : Onl [k0, k0 + 1 + 1] V w'
  keys : ∃ f, w'.rowIs k0 2 n f ∧ ∀ i, i ≠ k → f i = kyVX K k i
  nums : ∃ f, w'.rowIs (k0 + 1 + 1) 2 n f ∧ ∀ i, i ≠ k → f i = nbVX k i
theorem NumQX.bel {V : World} {k0 n : Nat} {K : Nat → Int} {k : Nat} {w' w'' : World} (h : NumQX V k0 n K k w') (hb : Bel w' w'') : NumQX V k0 n K k w'' := by
  obtain ⟨o, ⟨f, f1, f2⟩, ⟨g, g1, g2⟩⟩ := h
  exact ⟨o.bel hb, ⟨f, f1.of_block (hb.out.block _ f1.lt), f2⟩, ⟨g, g1.of_block (hb.out.block _ g1.lt), g2⟩⟩
theorem NumQX.drew {V : World} {k0 n : Nat} {K : Nat → Int} {k : Nat} {w' : World} (h : NumQX V k0 n K k w') : NumQX V k0 n K k w'.drew := h.bel (Bel.drew (Bel.refl _))
theorem NumQX.setK {V : World} {k0 n : Nat} {K : Nat → Int} {k : Nat} {w' : World} (h : NumQX V k0 n K k w') (v : Value) : NumQX V k0 n K k (w'.setCell ⟨k0, k, none⟩ v) := by
  obtain ⟨o, ⟨f, f1, f2⟩, ⟨g, g1, g2⟩⟩ := h
  exact ⟨o.set (by simp) _ _, ⟨_, f1.set k v, fun i hi => by show (if i = k then v else f i) = _; rw [if_neg hi]; exact f2 i hi⟩, ⟨g, g1.setOther (a := ⟨k0, k, none⟩) (by show k0 + 1 + 1 ≠ k0; omega) _, g2⟩⟩
theorem NumQX.setN {V : World} {k0 n : Nat} {K : Nat → Int} {k : Nat} {w' : World} (h : NumQX V k0 n K k w') (v : Value) : NumQX V k0 n K k (w'.setCell ⟨k0 + 1 + 1, k, none⟩ v) := by
  obtain ⟨o, ⟨f, f1, f2⟩, ⟨g, g1, g2⟩⟩ := h
  exact ⟨o.set (by simp) _ _, ⟨f, f1.setOther (a := ⟨k0 + 1 + 1, k, none⟩) (by show k0 ≠ k0 + 1 + 1; omega) _, f2⟩, ⟨_, g1.set k v, fun i hi => by show (if i = k then v else g i) = _; rw [if_neg hi]; exact g2 i hi⟩⟩
theorem NumQX.at {V : World} {k0 n : Nat} {K : Nat → Int} {k : Nat} {w' : World} (h : NumQX V k0 n K k w') (hk : k < n) : (∃ v, w'.cell? ⟨k0, k, none⟩ = some v) ∧ (∃ v, w'.cell? ⟨k0 + 1 + 1, k, none⟩ = some v) ∧ w'.frozen? ⟨k0, k, none⟩ = false ∧ w'.frozen? ⟨k0 + 1 + 1, k, none⟩ = false := by
  obtain ⟨_, ⟨f, f1, _⟩, ⟨g, g1, _⟩⟩ := h
  exact ⟨⟨_, f1.cell hk⟩, ⟨_, g1.cell hk⟩, f1.frozen k, g1.frozen k⟩
theorem NumSX.q {w : World} {k0 n : Nat} {K : Nat → Int} {k : Nat} {wr V : World} (h : NumSX w k0 n K k wr) (hb : Bel wr V) : NumQX V k0 n K k V :=
  ⟨Onl.refl _ _, ⟨_, h.keys.of_block (hb.out.block _ h.keys.lt), fun _ _ => rfl⟩, ⟨_, h.nums.of_block (hb.out.block _ h.nums.lt), fun _ _ => rfl⟩⟩
theorem NumQX.fin {w : World} {k0 n : Nat} {K : Nat → Int} {k : Nat} {wr V w' : World} (h : NumSX w k0 n K k wr) (hb : Bel wr V) (q : NumQX V k0 n K k w') (hw : w.heap.size ≤ k0) (hk : k < n) (e1 : w'.cell? ⟨k0, k, none⟩ = some (.int .i64 (K k))) (e2 : w'.cell? ⟨k0 + 1 + 1, k, none⟩ = some (.int .i64 (k : Int))) : NumSX w k0 n K (k + 1) w' := by
  obtain ⟨o, ⟨f, f1, f2⟩, ⟨g, g1, g2⟩⟩ := q
  have hv := h.var.bel hb
  have ho := o.block (k0 + 1) hv.lt (by simp)
  refine ⟨f1.congr fun i _ => ?_, ⟨Nat.lt_of_lt_of_le hv.lt o.size, fun i hi => by rw [World.cell?_of_block (a := ⟨k0 + 1, i, none⟩) ho]; exact hv.cell i hi, fun i => by rw [World.frozen?_of_block (a := ⟨k0 + 1, i, none⟩) ho]; exact hv.free i⟩, g1.congr fun i _ => ?_, Onl.to_bel (bel_step h.bel hb) o (fun x hx => by simp at hx; omega)⟩
  · by_cases e : i = k
    · subst e
      have := (f1.cell hk).symm.trans e1
      rw [Option.some.inj this]; unfold kyVX; rw [if_pos (by omega)]
    · rw [f2 i e]; unfold kyVX
      by_cases e3 : i < k
      · rw [if_pos e3, if_pos (by omega)]
      · rw [if_neg e3, if_neg (by omega)]
  · by_cases e : i = k
    · subst e
      have := (g1.cell hk).symm.trans e2
      rw [Option.some.inj this]; unfold nbVX; rw [if_pos (by omega)]
    · rw [g2 i e]; unfold nbVX
      by_cases e3 : i < k
      · rw [if_pos e3, if_pos (by omega)]
      · rw [if_neg e3, if_neg (by omega)]

set_option maxRecDepth 100000 in
set_option maxHeartbeats 4000000 in
theorem numbersBy_anyX (a : Option Addr) (n c : Nat) (X Y : Nat → Int) (w : World) (hP : Pts w a n X Y) (px py : Int) (PB : Nat) (hT : Blk w PB [.int .i64 px, .int .i64 py]) (hp : POk px py) (hX : ∀ i, i < n → POk (X i) (Y i)) (hn : n ≤ 2000) :
    Calls Tryd.prog 26 #[.slice a n c, .func (.func 27) #[] #[.pointer (some ⟨PB, 0, none⟩)]] w fun e w' => ∃ d : Nat → Nat, e = .returned (.slice (some ⟨w.heap.size + 1 + 1, 0, none⟩) n n) ∧ w'.rowIs (w.heap.size + 1 + 1) 2 n (fun i => .int .i64 ((d i : Nat) : Int)) ∧ Bk (fun i => dsq px py (X i) (Y i)) d 0 n ∧ Bel w w' := by
  have hmk1 := fun w' => run_make_row' (P := Tryd.prog) 31 2 (.int .i64 0) 8 Tryd.underlying31 infoNX rfl .i64 .i64 n (by omega) (by omega) w'
  have hmk2 := fun w' => run_make_row' (P := Tryd.prog) 31 2 (.int .i64 0) 8 Tryd.underlying31 infoNX rfl .i64 .i64 n (by omega) (by omega) w'
  obtain ⟨W3, HW⟩ : ∃ W, Hid (W = ((w.alloc (.cells (madeCells #[.int .i64 0] n) 2)).alloc (.cells #[.slice (some ⟨w.heap.size, 0, none⟩) n n] 31)).alloc (.cells (madeCells #[.int .i64 0] n) 2)) := ⟨_, (rfl : ((w.alloc (.cells (madeCells #[.int .i64 0] n) 2)).alloc (.cells #[.slice (some ⟨w.heap.size, 0, none⟩) n n] 31)).alloc (.cells (madeCells #[.int .i64 0] n) 2) = _)⟩
  have HS0 : Hid (NumSX w w.heap.size n (fun i => dsq px py (X i) (Y i)) 0 W3) := by
    rw [HW.out]
    refine ⟨((((World.rowIs_made w (.int .i64 0) n 2).alloc _).alloc _).congr fun i _ => ?_), ((Blk.new1 w _ [.slice (some ⟨w.heap.size, 0, none⟩) n n] _).bel (bel_alloc (Bel.refl _) _)), ?_, bel_alloc (bel_alloc (bel_alloc (Bel.refl _) _) _) _⟩
    · unfold kyVX; rw [if_neg (Nat.not_lt_zero _)]
    · have h := World.rowIs_made ((w.alloc (.cells (madeCells #[.int .i64 0] n) 2)).alloc (.cells #[.slice (some ⟨w.heap.size, 0, none⟩) n n] 31)) (.int .i64 0) n 2
      have e : ((w.alloc (.cells (madeCells #[.int .i64 0] n) 2)).alloc (.cells #[.slice (some ⟨w.heap.size, 0, none⟩) n n] 31)).heap.size = w.heap.size + 1 + 1 := by simp
      rw [e] at h
      exact h.congr fun i _ => by unfold nbVX; rw [if_neg (Nat.not_lt_zero _)]
  have HT : Hid (Blk w PB [.int .i64 px, .int .i64 py]) := hT
  have HX : Hid (∀ i, i < n → POk (X i) (Y i)) := hX
  have HP : Hid (Pts w a n X Y) := hP
  clear hP hT hX
  go_enter Tryd.func26, Tryd.ntmps26
  go_wp2
  rw [← HW.out]
  clear hmk1 hmk2 HW
  go_loopw [7, 8, 17] (fun _ _ i wr => ∃ k : Nat, k ≤ n ∧ i = .int .i64 k ∧ NumSX w w.heap.size n (fun i => dsq px py (X i) (Y i)) k wr) (fun _ _ i _ => n - (intOf i).toNat)
  case atStart => exact ⟨0, Nat.zero_le _, rfl, HS0.out⟩
  case round =>
    clear HS0
    obtain ⟨k, hk, rfl, hN⟩ := hrel
    have HN : Hid (NumSX w w.heap.size n (fun i => dsq px py (X i) (Y i)) k wr) := hN
    by_cases hlt : k < n
    · have hlt' : (k : Int) < (n : Int) := by omega
      rcases HP.out.bel hN.bel with h | ⟨b, off, rfl, h2, h3⟩
      · omega
      obtain ⟨cx, cy⟩ := h3 k hlt
      obtain ⟨x, Hx⟩ : ∃ x, Hid (X k = x) := ⟨_, (rfl : X k = _)⟩
      obtain ⟨y, Hy⟩ : ∃ x, Hid (Y k = x) := ⟨_, (rfl : Y k = _)⟩
      rw [Hx.out] at cx
      rw [Hy.out] at cy
      obtain ⟨V, HV⟩ : ∃ V : World, Hid (V = wr.alloc (.cells #[.int .i64 x, .int .i64 y] 26)) := ⟨_, (rfl : wr.alloc (.cells #[.int .i64 x, .int .i64 y] 26) = _)⟩
      have hBV : Bel wr V := by rw [HV.out]; exact bel_alloc (Bel.refl _) _
      have XP : Blk V wr.heap.size [.int .i64 x, .int .i64 y] := by rw [HV.out]; exact Blk.new wr [.int .i64 x, .int .i64 y] _
      have XK : Blk V (w.heap.size + 1) [.slice (some ⟨w.heap.size, 0, none⟩) n n] := hN.var.bel hBV
      have hTV : Blk V PB [.int .i64 px, .int .i64 py] := HT.out.bel (bel_step hN.bel hBV)
      have hxk : POk x y := by rw [← Hx.out, ← Hy.out]; exact HX.out k hlt
      have g0 : NumQX V w.heap.size n (fun i => dsq px py (X i) (Y i)) k V := hN.q hBV
      have l1 := hN.keys.lt
      have l2 := hN.nums.lt
      have hTO : ∀ w', NumQX V w.heap.size n (fun i => dsq px py (X i) (Y i)) k w' → Blk w' PB [.int .i64 px, .int .i64 py] := fun w' h => by
        have h0 := HT.out.lt
        have ho := h.onl.block PB hTV.lt (by simp; omega)
        exact ⟨Nat.lt_of_lt_of_le hTV.lt h.onl.size, fun i hi => by rw [World.cell?_of_block (a := ⟨PB, i, none⟩) ho]; exact hTV.cell i hi, fun i => by rw [World.frozen?_of_block (a := ⟨PB, i, none⟩) ho]; exact hTV.free i⟩
      have hR : ∀ w', NumQX V w.heap.size n (fun i => dsq px py (X i) (Y i)) k w' → w'.cell? ⟨w.heap.size + 1, 0, none⟩ = some (.slice (some ⟨w.heap.size, 0, none⟩) n n) ∧ w'.cell? ⟨wr.heap.size, 0, none⟩ = some (.int .i64 x) ∧ w'.cell? ⟨wr.heap.size, 1, none⟩ = some (.int .i64 y) := fun w' h => by
        have q1 : wr.heap.size ∉ [w.heap.size, w.heap.size + 1 + 1] := by simp; omega
        have q2 : w.heap.size + 1 ∉ [w.heap.size, w.heap.size + 1 + 1] := by simp
        refine ⟨?_, ?_, ?_⟩
        · rw [World.cell?_of_block (a := ⟨w.heap.size + 1, 0, none⟩) (h.onl.block _ XK.lt q2)]; exact XK.cell 0 (by simp)
        · rw [World.cell?_of_block (a := ⟨wr.heap.size, 0, none⟩) (h.onl.block _ XP.lt q1)]; exact XP.cell 0 (by simp)
        · rw [World.cell?_of_block (a := ⟨wr.heap.size, 1, none⟩) (h.onl.block _ XP.lt q1)]; exact XP.cell 1 (by simp)
      have HK : Hid (dsq px py (X k) (Y k) = dsq px py x y) := by show dsq px py (X k) (Y k) = dsq px py x y; rw [Hx.out, Hy.out]
      clear hN h3 XK XP hTV
      go_wp2
      rw [← HV.out]
      go_region_held3 (fun w' => NumQX V w.heap.size n (fun i => dsq px py (X i) (Y i)) k w') (with_reducible (repeat (first | exact g0 | assumption | refine NumQX.drew ?_ | refine NumQX.setK ?_ _ | refine NumQX.setN ?_ _)))
        (first
          | (go_at_call 27; refine (sqKey_any px py _ _ PB _ (hTO _ (by assumption)) hp hxk).mono ?_; rintro e w4 ⟨rfl, hb4⟩; refine (fun hq : NumQX V w.heap.size n (fun i => dsq px py (X i) (Y i)) k w4 => ?_) (NumQX.bel (by assumption) hb4); obtain ⟨⟨r0, hr0⟩, ⟨r1, hr1⟩, fz0, fz1⟩ := hq.at hlt))
      obtain ⟨Vf, HVf⟩ : ∃ V : World, Hid (V = (w4.setCell ⟨w.heap.size, k, none⟩ (.int .i64 (dsq px py x y))).setCell ⟨w.heap.size + 1 + 1, k, none⟩ (.int .i64 (k : Int))) := ⟨_, (rfl : (w4.setCell ⟨w.heap.size, k, none⟩ (.int .i64 (dsq px py x y))).setCell ⟨w.heap.size + 1 + 1, k, none⟩ (.int .i64 (k : Int)) = _)⟩
      have HF : Hid (NumSX w w.heap.size n (fun i => dsq px py (X i) (Y i)) (k + 1) Vf) := by
        rw [HVf.out]
        refine NumQX.fin HN.out hBV ((hq.setK _).setN _) (Nat.le_refl _) hlt ?_ ?_
        · show _ = some (Value.int .i64 (dsq px py (X k) (Y k)))
          rw [HK.out]; simp [go_sem, hr0]
        · simp [go_sem, hr1]
      rw [← HVf.out]
      clear hR hTO hr0 hr1 fz0 fz1 hq hb4 g0
      go_wp2
      go_roundw
      case rel => exact ⟨k + 1, by omega, by go_num, HF.out⟩
      case measure => simp [intOf]; omega
    · obtain rfl : k = n := by omega
      have hlt' : ¬ (k : Int) < (k : Int) := by omega
      have hK : KeysX wr w.heap.size (w.heap.size + 1) k (fun i => dsq px py (X i) (Y i)) := ⟨hN.keys.congr fun i hi => by unfold kyVX; rw [if_pos hi], hN.var⟩
      have hS : Sw wr (w.heap.size + 1 + 1) k (fun i => i) wr := ⟨hN.nums.congr fun i hi => by unfold nbVX; rw [if_pos hi], Onl.refl _ _⟩
      have cS := sortStable_any wr (w.heap.size + 1 + 1) k k (fun i => dsq px py (X i) (Y i)) 40 (.pointer (some ⟨w.heap.size + 1, 0, none⟩)) (enters_of Tryd.func40 (by kernel_rfl) rfl) (keyLess_cmpX hK (by omega) (by omega)) wr hS (by omega)
      have hB := hN.bel
      clear hN hK hS
      go_wp2_with fail
      refine cS.mono ?_
      rintro _ w5 ⟨rfl, d, S5, B5⟩
      have HO : Hid (w5.rowIs (w.heap.size + 1 + 1) 2 k (fun i => .int .i64 ((d i : Nat) : Int)) ∧ Bk (fun i => dsq px py (X i) (Y i)) d 0 k ∧ Bel w w5) := ⟨S5.row, B5, Onl.to_bel hB S5.onl (fun x hx => by simp at hx; omega)⟩
      clear cS S5 B5
      go_wp2
      go_ret
      exact ⟨d, rfl, HO.out.1, HO.out.2.1, HO.out.2.2⟩
end Go.Proofs.YtkinpfnelmdmlaaDoor
