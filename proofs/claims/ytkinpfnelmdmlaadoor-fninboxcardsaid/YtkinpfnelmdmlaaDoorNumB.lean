/-
  Contract of numbersBy by codes: the numbers of a row of points, ordered by their codes, of the same the first first.
-/
import Derived.Test.YtkinpfnelmdmlaaDoorNumC
namespace Go.Proofs.YtkinpfnelmdmlaaDoor
open Go.RowKit Go.Maps Go.Shelf

theorem infoU : (Tryd.prog.info? 37).map (fun i => (i.zero, i.size, i.bytes)) = some (some (.int .u64 0), 1, 8) := by kernel_rfl
theorem infoN : (Tryd.prog.info? 2).map (fun i => (i.zero, i.size, i.bytes)) = some (some (.int .i64 0), 1, 8) := by kernel_rfl
/-- The keys and the numbers so far. -/
def kyV (K : Nat → Int) (k i : Nat) : Value := .int .u64 (if i < k then K i else 0)
def nbV (k i : Nat) : Value := .int .i64 (if i < k then (i : Int) else 0)
structure NumS (w : World) (k0 n : Nat) (K : Nat → Int) (k : Nat) (wr : World) : Prop where
  keys : wr.rowIs k0 37 n (kyV K k)
  var : Blk wr (k0 + 1) [.slice (some ⟨k0, 0, none⟩) n n]
  nums : wr.rowIs (k0 + 1 + 1) 2 n (nbV k)
  bel : Bel w wr
/-- While round k goes on: all but the two cells that it writes is known. -/
structure NumQ (V : World) (k0 n : Nat) (K : Nat → Int) (k : Nat) (w' : World) : Prop where
  onl : Onl [k0, k0 + 1 + 1] V w'
  keys : ∃ f, w'.rowIs k0 37 n f ∧ ∀ i, i ≠ k → f i = kyV K k i
  nums : ∃ f, w'.rowIs (k0 + 1 + 1) 2 n f ∧ ∀ i, i ≠ k → f i = nbV k i
theorem NumQ.bel {V : World} {k0 n : Nat} {K : Nat → Int} {k : Nat} {w' w'' : World} (h : NumQ V k0 n K k w') (hb : Bel w' w'') : NumQ V k0 n K k w'' := by
  obtain ⟨o, ⟨f, f1, f2⟩, ⟨g, g1, g2⟩⟩ := h
  exact ⟨o.bel hb, ⟨f, f1.of_block (hb.out.block _ f1.lt), f2⟩, ⟨g, g1.of_block (hb.out.block _ g1.lt), g2⟩⟩
theorem NumQ.drew {V : World} {k0 n : Nat} {K : Nat → Int} {k : Nat} {w' : World} (h : NumQ V k0 n K k w') : NumQ V k0 n K k w'.drew := h.bel (Bel.drew (Bel.refl _))
theorem NumQ.setK {V : World} {k0 n : Nat} {K : Nat → Int} {k : Nat} {w' : World} (h : NumQ V k0 n K k w') (v : Value) : NumQ V k0 n K k (w'.setCell ⟨k0, k, none⟩ v) := by
  obtain ⟨o, ⟨f, f1, f2⟩, ⟨g, g1, g2⟩⟩ := h
  exact ⟨o.set (by simp) _ _, ⟨_, f1.set k v, fun i hi => by show (if i = k then v else f i) = _; rw [if_neg hi]; exact f2 i hi⟩, ⟨g, g1.setOther (a := ⟨k0, k, none⟩) (by show k0 + 1 + 1 ≠ k0; omega) _, g2⟩⟩
theorem NumQ.setN {V : World} {k0 n : Nat} {K : Nat → Int} {k : Nat} {w' : World} (h : NumQ V k0 n K k w') (v : Value) : NumQ V k0 n K k (w'.setCell ⟨k0 + 1 + 1, k, none⟩ v) := by
  obtain ⟨o, ⟨f, f1, f2⟩, ⟨g, g1, g2⟩⟩ := h
  exact ⟨o.set (by simp) _ _, ⟨f, f1.setOther (a := ⟨k0 + 1 + 1, k, none⟩) (by show k0 ≠ k0 + 1 + 1; omega) _, f2⟩, ⟨_, g1.set k v, fun i hi => by show (if i = k then v else g i) = _; rw [if_neg hi]; exact g2 i hi⟩⟩
theorem NumQ.at {V : World} {k0 n : Nat} {K : Nat → Int} {k : Nat} {w' : World} (h : NumQ V k0 n K k w') (hk : k < n) : (∃ v, w'.cell? ⟨k0, k, none⟩ = some v) ∧ (∃ v, w'.cell? ⟨k0 + 1 + 1, k, none⟩ = some v) ∧ w'.frozen? ⟨k0, k, none⟩ = false ∧ w'.frozen? ⟨k0 + 1 + 1, k, none⟩ = false := by
  obtain ⟨_, ⟨f, f1, _⟩, ⟨g, g1, _⟩⟩ := h
  exact ⟨⟨_, f1.cell hk⟩, ⟨_, g1.cell hk⟩, f1.frozen k, g1.frozen k⟩
theorem NumS.q {w : World} {k0 n : Nat} {K : Nat → Int} {k : Nat} {wr V : World} (h : NumS w k0 n K k wr) (hb : Bel wr V) : NumQ V k0 n K k V :=
  ⟨Onl.refl _ _, ⟨_, h.keys.of_block (hb.out.block _ h.keys.lt), fun _ _ => rfl⟩, ⟨_, h.nums.of_block (hb.out.block _ h.nums.lt), fun _ _ => rfl⟩⟩
theorem NumQ.fin {w : World} {k0 n : Nat} {K : Nat → Int} {k : Nat} {wr V w' : World} (h : NumS w k0 n K k wr) (hb : Bel wr V) (q : NumQ V k0 n K k w') (hw : w.heap.size ≤ k0) (hk : k < n) (e1 : w'.cell? ⟨k0, k, none⟩ = some (.int .u64 (K k))) (e2 : w'.cell? ⟨k0 + 1 + 1, k, none⟩ = some (.int .i64 (k : Int))) : NumS w k0 n K (k + 1) w' := by
  obtain ⟨o, ⟨f, f1, f2⟩, ⟨g, g1, g2⟩⟩ := q
  have hv := h.var.bel hb
  have ho := o.block (k0 + 1) hv.lt (by simp)
  refine ⟨f1.congr fun i _ => ?_, ⟨Nat.lt_of_lt_of_le hv.lt o.size, fun i hi => by rw [World.cell?_of_block (a := ⟨k0 + 1, i, none⟩) ho]; exact hv.cell i hi, fun i => by rw [World.frozen?_of_block (a := ⟨k0 + 1, i, none⟩) ho]; exact hv.free i⟩, g1.congr fun i _ => ?_, Onl.to_bel (bel_step h.bel hb) o (fun x hx => by simp at hx; omega)⟩
  · by_cases e : i = k
    · subst e
      have := (f1.cell hk).symm.trans e1
      rw [Option.some.inj this]; unfold kyV; rw [if_pos (by omega)]
    · rw [f2 i e]; unfold kyV
      by_cases e3 : i < k
      · rw [if_pos e3, if_pos (by omega)]
      · rw [if_neg e3, if_neg (by omega)]
  · by_cases e : i = k
    · subst e
      have := (g1.cell hk).symm.trans e2
      rw [Option.some.inj this]; unfold nbV; rw [if_pos (by omega)]
    · rw [g2 i e]; unfold nbV
      by_cases e3 : i < k
      · rw [if_pos e3, if_pos (by omega)]
      · rw [if_neg e3, if_neg (by omega)]

set_option maxRecDepth 100000 in
set_option maxHeartbeats 4000000 in
theorem numbersBy_any (a : Option Addr) (n c : Nat) (X Y : Nat → Int) (w : World) (hP : Pts w a n X Y) (hT : SpTab w) (hn : n ≤ 2000) :
    Calls Tryd.prog 20 #[.slice a n c, .func (.func 11) #[] #[]] w fun e w' => ∃ d : Nat → Nat, e = .returned (.slice (some ⟨w.heap.size + 1 + 1, 0, none⟩) n n) ∧ w'.rowIs (w.heap.size + 1 + 1) 2 n (fun i => .int .i64 ((d i : Nat) : Int)) ∧ Bk (fun i => cod (X i) (Y i)) d 0 n ∧ Bel w w' := by
  have hmk1 := fun w' => run_make_row' (P := Tryd.prog) 60 37 (.int .u64 0) 8 Tryd.underlying60 infoU rfl .i64 .i64 n (by omega) (by omega) w'
  have hmk2 := fun w' => run_make_row' (P := Tryd.prog) 31 2 (.int .i64 0) 8 Tryd.underlying31 infoN rfl .i64 .i64 n (by omega) (by omega) w'
  obtain ⟨W3, HW⟩ : ∃ W, Hid (W = ((w.alloc (.cells (madeCells #[.int .u64 0] n) 37)).alloc (.cells #[.slice (some ⟨w.heap.size, 0, none⟩) n n] 60)).alloc (.cells (madeCells #[.int .i64 0] n) 2)) := ⟨_, (rfl : ((w.alloc (.cells (madeCells #[.int .u64 0] n) 37)).alloc (.cells #[.slice (some ⟨w.heap.size, 0, none⟩) n n] 60)).alloc (.cells (madeCells #[.int .i64 0] n) 2) = _)⟩
  have HS0 : Hid (NumS w w.heap.size n (fun i => cod (X i) (Y i)) 0 W3) := by
    rw [HW.out]
    refine ⟨((((World.rowIs_made w (.int .u64 0) n 37).alloc _).alloc _).congr fun i _ => ?_), ((Blk.new1 w _ [.slice (some ⟨w.heap.size, 0, none⟩) n n] _).bel (bel_alloc (Bel.refl _) _)), ?_, bel_alloc (bel_alloc (bel_alloc (Bel.refl _) _) _) _⟩
    · unfold kyV; rw [if_neg (Nat.not_lt_zero _)]
    · have h := World.rowIs_made ((w.alloc (.cells (madeCells #[.int .u64 0] n) 37)).alloc (.cells #[.slice (some ⟨w.heap.size, 0, none⟩) n n] 60)) (.int .i64 0) n 2
      have e : ((w.alloc (.cells (madeCells #[.int .u64 0] n) 37)).alloc (.cells #[.slice (some ⟨w.heap.size, 0, none⟩) n n] 60)).heap.size = w.heap.size + 1 + 1 := by simp
      rw [e] at h
      exact h.congr fun i _ => by unfold nbV; rw [if_neg (Nat.not_lt_zero _)]
  have HT : Hid (SpTab w) := hT
  have HP : Hid (Pts w a n X Y) := hP
  clear hP hT
  go_enter Tryd.func20, Tryd.ntmps20
  go_wp2
  rw [← HW.out]
  clear hmk1 hmk2 HW
  go_loopw [7, 8, 17] (fun _ _ i wr => ∃ k : Nat, k ≤ n ∧ i = .int .i64 k ∧ NumS w w.heap.size n (fun i => cod (X i) (Y i)) k wr) (fun _ _ i _ => n - (intOf i).toNat)
  case atStart => exact ⟨0, Nat.zero_le _, rfl, HS0.out⟩
  case round =>
    clear HS0
    obtain ⟨k, hk, rfl, hN⟩ := hrel
    have HN : Hid (NumS w w.heap.size n (fun i => cod (X i) (Y i)) k wr) := hN
    by_cases hlt : k < n
    · have hlt' : (k : Int) < (n : Int) := by omega
      rcases HP.out.bel hN.bel with h | ⟨b, off, rfl, h2, h3⟩
      · omega
      obtain ⟨cx, cy⟩ := h3 k hlt
      obtain ⟨x, Hx⟩ : ∃ x, Hid (X k = x) := ⟨_, (rfl : X k = _)⟩
      obtain ⟨y, Hy⟩ : ∃ x, Hid (Y k = x) := ⟨_, (rfl : Y k = _)⟩
      rw [Hx.out] at cx
      rw [Hy.out] at cy
      obtain ⟨V, HV⟩ : ∃ V : World, Hid (V = wr.alloc (.cells #[.int .i64 x, .int .i64 y] 26)) := ⟨_, (rfl : wr.alloc (.cells #[.int .i64 x, .int .i64 y] 26) = _)⟩
      have hBV : Bel wr V := by rw [HV.out]; exact bel_alloc (Bel.refl _) _
      have XP : Blk V wr.heap.size [.int .i64 x, .int .i64 y] := by rw [HV.out]; exact Blk.new wr [.int .i64 x, .int .i64 y] _
      have XK : Blk V (w.heap.size + 1) [.slice (some ⟨w.heap.size, 0, none⟩) n n] := hN.var.bel hBV
      have hTV : SpTab V := HT.out.bel (bel_step hN.bel hBV)
      have g0 : NumQ V w.heap.size n (fun i => cod (X i) (Y i)) k V := hN.q hBV
      have l1 := hN.keys.lt
      have l2 := hN.nums.lt
      have hTO : ∀ w', NumQ V w.heap.size n (fun i => cod (X i) (Y i)) k w' → SpTab w' := fun w' h => by
        have h0 := HT.out.1
        have ho := h.onl.block 0 hTV.1 (by simp; omega)
        exact ⟨Nat.lt_of_lt_of_le hTV.1 h.onl.size, fun t ht => by rw [World.cell?_of_block (a := ⟨0, t, none⟩) ho]; exact hTV.2 t ht⟩
      have hR : ∀ w', NumQ V w.heap.size n (fun i => cod (X i) (Y i)) k w' → w'.cell? ⟨w.heap.size + 1, 0, none⟩ = some (.slice (some ⟨w.heap.size, 0, none⟩) n n) ∧ w'.cell? ⟨wr.heap.size, 0, none⟩ = some (.int .i64 x) ∧ w'.cell? ⟨wr.heap.size, 1, none⟩ = some (.int .i64 y) := fun w' h => by
        have q1 : wr.heap.size ∉ [w.heap.size, w.heap.size + 1 + 1] := by simp; omega
        have q2 : w.heap.size + 1 ∉ [w.heap.size, w.heap.size + 1 + 1] := by simp
        refine ⟨?_, ?_, ?_⟩
        · rw [World.cell?_of_block (a := ⟨w.heap.size + 1, 0, none⟩) (h.onl.block _ XK.lt q2)]; exact XK.cell 0 (by simp)
        · rw [World.cell?_of_block (a := ⟨wr.heap.size, 0, none⟩) (h.onl.block _ XP.lt q1)]; exact XP.cell 0 (by simp)
        · rw [World.cell?_of_block (a := ⟨wr.heap.size, 1, none⟩) (h.onl.block _ XP.lt q1)]; exact XP.cell 1 (by simp)
      have HK : Hid (cod (X k) (Y k) = cod x y) := by show cod (X k) (Y k) = cod x y; rw [Hx.out, Hy.out]
      clear hN h3 XK XP hTV
      go_wp2
      rw [← HV.out]
      go_region_held3 (fun w' => NumQ V w.heap.size n (fun i => cod (X i) (Y i)) k w') (with_reducible (repeat (first | exact g0 | assumption | refine NumQ.drew ?_ | refine NumQ.setK ?_ _ | refine NumQ.setN ?_ _)))
        (first
          | (go_at_call 11; refine (codeOf_any _ _ _ (hTO _ (by assumption))).mono ?_; rintro e w4 ⟨rfl, hb4⟩; refine (fun hq : NumQ V w.heap.size n (fun i => cod (X i) (Y i)) k w4 => ?_) (NumQ.bel (by assumption) hb4); obtain ⟨⟨r0, hr0⟩, ⟨r1, hr1⟩, fz0, fz1⟩ := hq.at hlt))
      obtain ⟨Vf, HVf⟩ : ∃ V : World, Hid (V = (w4.setCell ⟨w.heap.size, k, none⟩ (.int .u64 (cod x y))).setCell ⟨w.heap.size + 1 + 1, k, none⟩ (.int .i64 (k : Int))) := ⟨_, (rfl : (w4.setCell ⟨w.heap.size, k, none⟩ (.int .u64 (cod x y))).setCell ⟨w.heap.size + 1 + 1, k, none⟩ (.int .i64 (k : Int)) = _)⟩
      have HF : Hid (NumS w w.heap.size n (fun i => cod (X i) (Y i)) (k + 1) Vf) := by
        rw [HVf.out]
        refine NumQ.fin HN.out hBV ((hq.setK _).setN _) (Nat.le_refl _) hlt ?_ ?_
        · show _ = some (Value.int .u64 (cod (X k) (Y k)))
          rw [HK.out]; simp [go_sem, hr0]
        · simp [go_sem, hr1]
      rw [← HVf.out]
      clear hR hTO hr0 hr1 fz0 fz1 hq hb4 g0
      go_wp2
      go_roundw
      case rel => exact ⟨k + 1, by omega, by go_num, HF.out⟩
      case measure => simp [intOf]; omega
    · obtain rfl : k = n := by omega
      have hlt' : ¬ (k : Int) < (k : Int) := by omega
      have hK : Keys wr w.heap.size (w.heap.size + 1) k (fun i => cod (X i) (Y i)) := ⟨hN.keys.congr fun i hi => by unfold kyV; rw [if_pos hi], hN.var⟩
      have hS : Sw wr (w.heap.size + 1 + 1) k (fun i => i) wr := ⟨hN.nums.congr fun i hi => by unfold nbV; rw [if_pos hi], Onl.refl _ _⟩
      have cS := sortStable_any wr (w.heap.size + 1 + 1) k k (fun i => cod (X i) (Y i)) 36 (.pointer (some ⟨w.heap.size + 1, 0, none⟩)) (enters_of Tryd.func36 (by kernel_rfl) rfl) (keyLess_cmp hK (by omega) (by omega)) wr hS (by omega)
      have hB := hN.bel
      clear hN hK hS
      go_wp2_with fail
      refine cS.mono ?_
      rintro _ w5 ⟨rfl, d, S5, B5⟩
      have HO : Hid (w5.rowIs (w.heap.size + 1 + 1) 2 k (fun i => .int .i64 ((d i : Nat) : Int)) ∧ Bk (fun i => cod (X i) (Y i)) d 0 k ∧ Bel w w5) := ⟨S5.row, B5, Onl.to_bel hB S5.onl (fun x hx => by simp at hx; omega)⟩
      clear cS S5 B5
      go_wp2
      go_ret
      exact ⟨d, rfl, HO.out.1, HO.out.2.1, HO.out.2.2⟩
end Go.Proofs.YtkinpfnelmdmlaaDoor
