/-
  The pieces of a clipped row are cut: the program's contract.
-/
import Derived.Test.YtldfcnlhjjiihaaGreatClpQ
import Derived.Test.YtldfcnlhjjiihaaGreatKB
import Derived.BigRegionIn
namespace Go.Proofs.YtldfcnlhjjiihaaGreat
open Go.RowKit Go.Maps Go.Shelf

attribute [local go_sem] Oper.semAt_some

theorem infoPs : (Tryz.prog.info? 54).map (fun i => (i.zero, i.size, i.bytes)) = some (some (.slice none 0 0), 1, 24) := by kernel_rfl

/-- Piece i. -/
def ctV (g : Nat) (S : Nat → Nat) (i : Nat) : Value := .slice (some ⟨g, S i * 2, none⟩) (S (i + 1) - S i) (S (i + 1) - S i)
/-- The rows, k of them cut. -/
def ctR (g : Nat) (S : Nat → Nat) (m k : Nat) : List Value := (List.range m).map fun i => if m - k ≤ i then ctV g S i else .slice none 0 0
theorem ctR_len (g : Nat) (S : Nat → Nat) (m k : Nat) : (ctR g S m k).length = m := by simp [ctR]
theorem ctR_set (g : Nat) (S : Nat → Nat) (m k i : Nat) (h : i + k + 1 = m) : (ctR g S m k).set i (ctV g S i) = ctR g S m (k + 1) := by
 apply List.ext_getElem
 ·simp [ctR]
 ·intro j h1 h2
  simp only [ctR, List.length_set, List.length_map, List.length_range] at h1
  simp only [ctR, List.getElem_set, List.getElem_map, List.getElem_range]
  by_cases e : i = j
  ·subst e
   rw [if_pos rfl, if_pos (by omega)]
  ·rw [if_neg e]
   by_cases e2 : m - k ≤ j
   ·rw [if_pos e2, if_pos (by omega)]
   ·rw [if_neg e2, if_neg (by omega)]
theorem ctR_zero (g : Nat) (S : Nat → Nat) (m : Nat) : ctR g S m 0 = List.replicate m (.slice none 0 0) := by
 apply List.ext_getElem
 ·simp [ctR]
 ·intro j h1 h2
  simp only [ctR, List.length_map, List.length_range] at h1
  simp only [ctR, List.getElem_map, List.getElem_range, List.getElem_replicate]
  rw [if_neg (by omega)]

/-- All blocks below n but R and E are as before. -/
structure But2 (n R E : Nat) (w w' : World) : Prop where
 size : w.heap.size ≤ w'.heap.size
 cell : ∀ p : Addr, p.block < n → p.block ≠ R → p.block ≠ E → w'.cell? p = w.cell? p
theorem But2.refl {n R E : Nat} (w : World) : But2 n R E w w := ⟨Nat.le_refl _, fun _ _ _ _ => rfl⟩
theorem But2.trans {n R E : Nat} {a b c : World} (h : But2 n R E a b) (k : But2 n R E b c) : But2 n R E a c := ⟨Nat.le_trans h.size k.size, fun p h1 h2 h3 => (k.cell p h1 h2 h3).trans (h.cell p h1 h2 h3)⟩
theorem But2.put {n R E : Nat} (V : World) (l : Nat) (o : Obj) (h : n ≤ l) : But2 n R E V (V.putObj l o) :=
 ⟨(grownBy_putObj' V l o).size, fun p h1 _ _ => World.cell?_of_block (World.putObj_heap_other (by omega))⟩
theorem But2.set {n R E : Nat} (V : World) (a : Addr) (v : Value) (h : a.block = R ∨ a.block = E) : But2 n R E V (V.setCell a v) :=
 ⟨by simp [World.setCell], fun p h1 h2 h3 => World.cell?_setCell_other _ _ _ _ (fun e => by subst e; rcases h with h | h; exact h2 h; exact h3 h)⟩
theorem But2.bel {n R E : Nat} {V V' : World} (h : Bel V V') (hn : n ≤ V.heap.size) : But2 n R E V V' := ⟨h.out.size, fun p h1 _ _ => h.out.cell (p := p) (by omega)⟩

/-- The state of the walk behind k rounds. -/
structure CtI (w : World) (A B m : Nat) (q : PcD) (g : Nat) (S : Nat → Nat) (k : Nat) (V : World) : Prop where
 ps : Blk V A [.pointer (some ⟨B, 0, none⟩)]
 rows : Blk V (A + 1) (ctR g S m k)
 var : Blk V (A + 1 + 1) [.slice (some ⟨A + 1, 0, none⟩) m m]
 fin : Blk V (A + 1 + 1 + 1) [.int .i64 (S (m - k) : Int)]
 bel : Bel w V
theorem CtI.own {w : World} {A B m : Nat} {q : PcD} {g : Nat} {S : Nat → Nat} (hA : w.heap.size = A) {n : Nat} (hn : A + 1 + 1 + 1 < n) : OwnFrom n (CtI w A B m q g S) := by
 intro s V V' row hs hg hr
 have hne : ∀ b, b < n → some b ≠ row := fun b hb e => by have := (hr b e.symm).1; omega
 exact ⟨hs.ps.kept hg (hne _ (by omega)), hs.rows.kept hg (hne _ (by omega)), hs.var.kept hg (hne _ (by omega)), hs.fin.kept hg (hne _ hn), hs.bel.out.trans (below_grow hg (fun x hx => by have := (hr x hx).1; have := hs.ps.lt; omega) hs.bel.out.size)⟩

theorem own_any {w : World} {base : Nat} {e : TypeId} {q : Nat} {v : Value} {n : Nat} {xs : List Value} (h : w.ownsRow base e q v n xs) : ∃ a c, v = .slice a n c ∧ n ≤ c := by
 rcases h.2 with ⟨h1, h0⟩ | ⟨g, cap, cur, h1, h2⟩
 ·exact ⟨none, 0, by rw [h1, h0], by omega⟩
 ·exact ⟨_, cap, h1, by omega⟩
set_option maxRecDepth 100000 in
set_option maxHeartbeats 8000000 in
theorem cut_any (B : Nat) (q : PcD) (S : Nat → Nat) (w : World) (hP : Pcs B w q) (hS : ∀ i (h : i < q.ss.length), q.ss[i] = S i) (hT : S q.ss.length = q.pts.length) (hM : ∀ i, i < q.ss.length → S i < S (i + 1)) (hl : q.pts.length ≤ 1000000) (hs : q.ss.length ≤ 1000000) :
  Calls Tryz.prog 100 #[.pointer (some ⟨B, 0, none⟩)] w fun e w' => ∃ g c, e = .returned (.slice (some ⟨w.heap.size + 1, 0, none⟩) q.ss.length q.ss.length) ∧ (0 < q.pts.length → q.vp = .slice (some ⟨g, 0, none⟩) q.pts.length c) ∧ Blk w' (w.heap.size + 1) (ctR g S q.ss.length q.ss.length) ∧ Bel w w' := by
 obtain ⟨ap, cp, hvp, hcp⟩ := own_any hP.pts.own
 obtain ⟨sa, cs, hvs, _⟩ := own_any hP.ss
 obtain ⟨m, Hm⟩ : ∃ m, Hid (q.ss.length = m) := ⟨_, (rfl : q.ss.length = _)⟩
 obtain ⟨n, Hn⟩ : ∃ n, Hid (q.pts.length = n) := ⟨_, (rfl : q.pts.length = _)⟩
 have hBw := hP.box.lt
 rw [Hn.out] at hvp hcp hl hT
 have c0 : w.cell? ⟨B, 0, none⟩ = some (.slice ap n cp) := by rw [← hvp]; exact hP.box.cell 0 (by simp)
 have c1 : w.cell? ⟨B, 1, none⟩ = some (.slice sa m cs) := by rw [← Hm.out, ← hvs]; exact hP.box.cell 1 (by simp)
 have hSS : m = 0 ∨ ∃ b, sa = some ⟨b, 0, none⟩ ∧ b < w.heap.size ∧ ∀ j, j < m → w.cell? ⟨b, 0 + j, none⟩ = some (.int .i64 (S j : Int)) := by
  by_cases h0 : m = 0
  ·exact .inl h0
  ·obtain ⟨b, cap, e⟩ := own_some hP.ss (by rw [Hm.out]; omega)
   have hO := hP.ss
   rw [e] at hO
   rw [e] at hvs
   injection hvs with hv1 hv2 hv3
   refine .inr ⟨b, hv1.symm, (hO.lt b rfl).2, fun j hj => ?_⟩
   rw [Nat.zero_add, own_int hO (by rw [Hm.out]; exact hj), hS j (by rw [Hm.out]; exact hj)]
 have hPP : 0 < n → ∃ g, ap = some ⟨g, 0, none⟩ := fun h0 => by
  obtain ⟨b, cap, e⟩ := own_some hP.pts.own (by rw [Hn.out]; omega)
  rw [e] at hvp
  injection hvp with hv1 hv2 hv3
  exact ⟨b, hv1.symm⟩
 have HM : Hid (∀ i, i < m → S i < S (i + 1)) := (by rw [← Hm.out]; exact hM : ∀ i, i < m → S i < S (i + 1))
 rw [Hm.out] at hT hs ⊢
 have HMn : Hid (∀ i, i ≤ m → S i ≤ n) := (by
  have : ∀ d i, i + d = m → S i ≤ n := fun d => by
   induction d with
   | zero => intro i hi; rw [← hT, ← hi]; exact Nat.le_refl _
   | succ d ih => intro i hi; exact Nat.le_trans (Nat.le_of_lt (HM.out i (by omega))) (ih (i + 1) (by omega))
  exact fun i hi => this (m - i) i (by omega) : ∀ i, i ≤ m → S i ≤ n)
 obtain ⟨g, Hg⟩ : ∃ g, Hid (0 < n → ap = some ⟨g, 0, none⟩) := by
  by_cases h0 : 0 < n
  ·obtain ⟨g, e⟩ := hPP h0; exact ⟨g, (fun _ => e : 0 < n → ap = some ⟨g, 0, none⟩)⟩
  ·exact ⟨0, (fun h => absurd h h0 : 0 < n → ap = some ⟨0, 0, none⟩)⟩
 have HV : Hid (q.vp = .slice ap n cp) := hvp
 have HT : Hid (S m = n) := hT
 clear hPP hM hS hvs hvp
 obtain ⟨A, HA⟩ : ∃ A, Hid (w.heap.size = A) := ⟨_, (rfl : w.heap.size = _)⟩
 have hmk : ∀ w : World, (Instr.makeSlice 52 (.int .i64 m) (.int .i64 m)).run Tryz.prog w = .ok (.slice (some ⟨w.heap.size, 0, none⟩) m m) (w.alloc (.cells (madeCells #[.slice none 0 0] m) 54)) := fun w => by
  obtain ⟨i0, hi, hz0, hz1, hz2⟩ := info_parts infoPs
  have := run_make (P := Tryz.prog) w 52 54 i0 (.slice none 0 0) Tryz.underlying52 hi hz0 .i64 .i64 m m (by omega) (by omega) (by rw [hz2]; omega) (by omega)
  rw [hz1, Nat.mul_one] at this
  exact this
 have la1 : B < w.heap.size + 1 := by omega
 have la2 : B < w.heap.size + 1 + 1 := by omega
 have la3 : B < w.heap.size + 1 + 1 + 1 := by omega
 refine (callsIn_wide (n := 3)).1 ?_
 refine callsIn_of_wp_marks Tryz.func100 rfl trivial ?_ rfl
 simp only [Tryz.ntmps100, List.size_toArray, List.length_cons, List.length_nil, Nat.reduceAdd, Nat.reduceSub, Array.replicate_succ, Array.replicate_zero, List.push_toArray, List.append_toArray, List.nil_append, List.cons_append]
 gi_wp2_with (refine ⟨trivial, ?_⟩; gi_at_call 130; refine (callsIn_wide.2 (bwdI_all sa m cs _)).mono ?_; rintro e w' ⟨rfl, rfl⟩)
 obtain ⟨W1, HW1⟩ : ∃ W, Hid (W = ((((w.alloc (.cells #[.pointer (some ⟨B, 0, none⟩)] 203)).alloc (.cells (madeCells #[.slice none 0 0] m) 54)).alloc (.cells #[.slice (some ⟨w.heap.size + 1, 0, none⟩) m m] 52)).alloc (.cells #[.int .i64 n] 3)).alloc (.cells #[.slice sa m cs] 174)) := ⟨_, (rfl : ((((w.alloc (.cells #[.pointer (some ⟨B, 0, none⟩)] 203)).alloc (.cells (madeCells #[.slice none 0 0] m) 54)).alloc (.cells #[.slice (some ⟨w.heap.size + 1, 0, none⟩) m m] 52)).alloc (.cells #[.int .i64 n] 3)).alloc (.cells #[.slice sa m cs] 174) = _)⟩
 rw [← HW1.out]
 have hB1 : Bel w W1 := by rw [HW1.out]; exact bel_alloc (bel_alloc (bel_alloc (bel_alloc (bel_alloc (Bel.refl _) _) _) _) _) _
 have hs1 : W1.heap.size = A + 5 := by rw [HW1.out, ← HA.out]; simp
 have X0 : Blk W1 A [.pointer (some ⟨B, 0, none⟩)] := by rw [HW1.out, ← HA.out]; exact (Blk.new w [.pointer (some ⟨B, 0, none⟩)] _).bel (bel_alloc (bel_alloc (bel_alloc (bel_alloc (Bel.refl _) _) _) _) _)
 have X1 : Blk W1 (A + 1) (ctR g S m 0) := by
  have hmt : (List.replicate m (Value.slice none 0 0)).toArray = madeCells #[.slice none 0 0] m := by rw [← toList_madeCells_one]
  rw [HW1.out, ← HA.out, ctR_zero, ← hmt]; exact (Blk.new1 w _ (List.replicate m (.slice none 0 0)) _).bel (bel_alloc (bel_alloc (bel_alloc (Bel.refl _) _) _) _)
 have X2 : Blk W1 (A + 1 + 1) [.slice (some ⟨A + 1, 0, none⟩) m m] := by rw [HW1.out, ← HA.out]; exact (Blk.new2 w _ _ [.slice (some ⟨w.heap.size + 1, 0, none⟩) m m] _).bel (bel_alloc (bel_alloc (Bel.refl _) _) _)
 have X3 : Blk W1 (A + 1 + 1 + 1) [.int .i64 (S (m - 0) : Int)] := by rw [Nat.sub_zero, HT.out, HW1.out, ← HA.out]; exact (Blk.new2 (w.alloc _) _ _ [.int .i64 (n : Int)] _).bel (bel_alloc (Bel.refl _) _) |> fun h => by simpa using h
 have X4 : Blk W1 (A + 1 + 1 + 1 + 1) [.slice sa m cs] := by rw [HW1.out, ← HA.out]; have := Blk.new2 ((w.alloc (.cells #[.pointer (some ⟨B, 0, none⟩)] 203)).alloc (.cells (madeCells #[.slice none 0 0] m) 54)) (.cells #[.slice (some ⟨w.heap.size + 1, 0, none⟩) m m] 52) (.cells #[.int .i64 n] 3) [.slice sa m cs] 174; simpa using this
 have hBA : B < A := by rw [← HA.out]; exact hBw
 have hst : SeqAll Fence.wide 2 Tryz.prog 137 #[.pointer (some ⟨A + 1 + 1 + 1 + 1, 0, none⟩)] (fun k => #[.int .i64 ((m - 1 - k : Nat) : Int), .int .i64 (S (m - 1 - k) : Int)]) (But2 W1.heap.size (A + 1) (A + 1 + 1 + 1)) m W1 := fun l J V hV hY h0 => by
  have c4 : V.cell? ⟨A + 1 + 1 + 1 + 1, 0, none⟩ = some (.slice sa m cs) := (hV.cell (p := ⟨A + 1 + 1 + 1 + 1, 0, none⟩) X4.lt).trans (X4.cell 0 (by simp))
  rcases hSS with rfl | ⟨b, rfl, hb, hc⟩
  ·exact bwdI_nil Fence.wide 2 trivial rfl l _ cs sa J V c4 h0
  ·have hbA : b < A := by rw [← HA.out]; exact hb
   refine bwdI_in Fence.wide 2 trivial rfl (by omega) l (A + 1 + 1 + 1 + 1) b 0 m cs (fun j => .int .i64 (S j : Int)) (by omega) (But2 W1.heap.size (A + 1) (A + 1 + 1 + 1)) But2.trans J V (But2.refl V) (fun V' hk => ⟨?_, ?_, ?_, fun j hj => ?_⟩) hY h0
   ·rw [hk.cell _ X4.lt (by show A + 1 + 1 + 1 + 1 ≠ A + 1; omega) (by show A + 1 + 1 + 1 + 1 ≠ A + 1 + 1 + 1; omega)]; exact c4
   ·have := hk.size; have := hV.size; have := X4.lt; omega
   ·have := hk.size; have := hV.size; omega
   ·rw [hk.cell ⟨b, 0 + j, none⟩ (by show b < _; omega) (by show b ≠ _; omega) (by show b ≠ _; omega), hV.cell (p := ⟨b, 0 + j, none⟩) (by show b < _; omega), hB1.out.cell (p := ⟨b, 0 + j, none⟩) (by show b < _; omega)]; exact hc j hj
 have cB : W1.cell? ⟨B, 0, none⟩ = some (.slice ap n cp) := bel_cellM hB1 hBw c0
 have HI0 : Hid (CtI w A B m q g S 0 W1) := (⟨X0, X1, X2, X3, hB1⟩ : CtI w A B m q g S 0 W1)
 clear X0 X1 X2 X3 X4 hSS c0 c1 hmk la1 la2 la3
 rw [HA.out]
 refine wpIn_rangeAll rfl (by omega) (gf := 137) (lb := #[.pointer (some ⟨A + 1 + 1 + 1 + 1, 0, none⟩)]) rfl trivial (enters_of Tryz.func137 (by kernel_rfl) rfl) hst But2.trans But2.put (fun _ => rfl) (CtI w A B m q g S) (CtI.own HA.out (by omega)) HI0.out
  (fun k => { tmps := #[.pointer (some ⟨B, 0, none⟩), .pointer (some ⟨A, 0, none⟩), .slice none 0 0, .pointer (some ⟨A + 1 + 1, 0, none⟩), .pointer (some ⟨A + 1 + 1 + 1, 0, none⟩), .int .i64 ((m - 1 - k : Nat) : Int), .int .i64 (S (m - 1 - k) : Int), .pointer (some ⟨B, 0, none⟩), .pointer (some ⟨B, 0, none⟩), .pointer (some ⟨B, 1, none⟩), .slice sa m cs, .int .i64 m, .slice (some ⟨A + 1, 0, none⟩) m m, .pointer (some ⟨B, 0, none⟩), .pointer (some ⟨B, 0, none⟩), .pointer (some ⟨B, 0, none⟩), .slice ap n cp, .int .i64 n, .pointer (some ⟨B, 0, none⟩), .pointer (some ⟨B, 0, none⟩), .pointer (some ⟨B, 1, none⟩), .slice sa m cs, .func (.func 137) #[] #[.pointer (some ⟨A + 1 + 1 + 1 + 1, 0, none⟩)], .int .i64 ((m - 1 - k : Nat) : Int), .int .i64 (S (m - 1 - k) : Int), undef, undef, undef, undef, undef, undef, undef, undef, undef, undef, undef, undef, undef], defers := [] }) ?assign ?body ?done
 case assign =>
  intro l k V K hK
  gi_wp2
  exact hK
 case body =>
  intro l k V hI hk
  obtain ⟨i, hi⟩ : ∃ i : Nat, i + k + 1 = m := ⟨m - 1 - k, by omega⟩
  have e1 : m - 1 - k = i := by omega
  have e2 : m - k = i + 1 := by omega
  have hSl := HM.out i (by omega)
  have hSn := HMn.out (i + 1) (by omega)
  have hpos : 0 < n := by omega
  have eap := Hg.out hpos
  obtain ⟨Y0, Y1, Y2, Y3, Yb⟩ := hI
  rw [e2] at Y3
  have HE : Hid ((ctR g S m k).set i (ctV g S i) = ctR g S m (k + 1)) := ctR_set g S m k i hi
  have HF : Hid (m - (k + 1) = i) := (by omega : m - (k + 1) = i)
  obtain ⟨lo, Hlo⟩ : ∃ x, Hid (S i = x) := ⟨_, (rfl : S i = _)⟩
  obtain ⟨hh, Hhh⟩ : ∃ x, Hid (S (i + 1) = x) := ⟨_, (rfl : S (i + 1) = _)⟩
  rw [Hlo.out, Hhh.out] at hSl
  rw [Hhh.out] at hSn Y3
  have x0 : V.cell? ⟨A, 0, none⟩ = some (.pointer (some ⟨B, 0, none⟩)) := Y0.cell 0 (by simp)
  have x2 : V.cell? ⟨A + 1 + 1, 0, none⟩ = some (.slice (some ⟨A + 1, 0, none⟩) m m) := Y2.cell 0 (by simp)
  have x3 : V.cell? ⟨A + 1 + 1 + 1, 0, none⟩ = some (.int .i64 (hh : Int)) := Y3.cell 0 (by simp)
  have x1 : V.cell? ⟨A + 1, i, none⟩ = some ((ctR g S m k)[i]'(by rw [ctR_len]; omega)) := Y1.cell i (by rw [ctR_len]; omega)
  obtain ⟨u, Hu⟩ : ∃ u, Hid ((ctR g S m k)[i]'(by rw [ctR_len]; omega) = u) := ⟨_, (rfl : (ctR g S m k)[i]'(by rw [ctR_len]; omega) = _)⟩
  rw [Hu.out] at x1
  have xB : V.cell? ⟨B, 0, none⟩ = some (.slice (some ⟨g, 0, none⟩) n cp) := by rw [← eap, Yb.out.cell (p := ⟨B, 0, none⟩) (by rw [HA.out]; exact hBA), ← hB1.out.cell (p := ⟨B, 0, none⟩) (by rw [HA.out]; exact hBA)]; exact cB
  have f1 := Y1.free
  have f3 := Y3.free
  have l0 := Y0.lt
  have l1 := Y1.lt
  have l2 := Y2.lt
  have l3 := Y3.lt
  have lB : B < V.heap.size := by omega
  have hiI : (i : Int) < (m : Int) := by omega
  have hlI : (lo : Int) ≤ (hh : Int) := by omega
  have hhI : (hh : Int) ≤ (cp : Int) := by omega
  have hlN : lo ≤ hh := by omega
  have hlz : ¬ hh = lo := by omega
  have HVC : Hid (ctV g S i = .slice (some ⟨g, lo * 2, none⟩) (hh - lo) (hh - lo)) := (by unfold ctV; rw [Hlo.out, Hhh.out] : ctV g S i = .slice (some ⟨g, lo * 2, none⟩) (hh - lo) (hh - lo))
  have hhN : hh ≤ cp := by omega
  subst eap
  rw [e1, Hlo.out]
  clear hst HI0 hB1 cB
  gi_wp2
  refine region_in_round (fun ⟨_, _, h⟩ => nomatch (h.1 : Exit.outgrown = Exit.normal)) (S := fun w' => w'.cell? ⟨A, 0, none⟩ = some (.pointer (some ⟨B, 0, none⟩)) ∧ w'.cell? ⟨A + 1 + 1, 0, none⟩ = some (.slice (some ⟨A + 1, 0, none⟩) m m) ∧ w'.cell? ⟨A + 1 + 1 + 1, 0, none⟩ = some (.int .i64 (hh : Int)) ∧ w'.cell? ⟨B, 0, none⟩ = some (.slice (some ⟨g, 0, none⟩) n cp)) (by kernel_rfl) (by kernel_rfl) ?_
  have hHeld : V.drew.cell? ⟨A, 0, none⟩ = some (.pointer (some ⟨B, 0, none⟩)) ∧ V.drew.cell? ⟨A + 1 + 1, 0, none⟩ = some (.slice (some ⟨A + 1, 0, none⟩) m m) ∧ V.drew.cell? ⟨A + 1 + 1 + 1, 0, none⟩ = some (.int .i64 (hh : Int)) ∧ V.drew.cell? ⟨B, 0, none⟩ = some (.slice (some ⟨g, 0, none⟩) n cp) := ⟨x0, x2, x3, xB⟩
  refine tk 0 hHeld ?_; refine tk 1 hHeld ?_; refine tk 2 hHeld ?_; refine tk 3 hHeld ?_; refine tk 4 hHeld ?_; refine tk 5 hHeld ?_
  refine tk 6 hHeld ?_; refine tk 7 hHeld ?_; refine tk 8 hHeld ?_; refine tk 9 hHeld ?_; refine tk 10 hHeld ?_
  refine rd1 11 (fun K hK => ?_)
  go_simp
  obtain ⟨Vd, HVd⟩ : ∃ W, Hid (W = (V.setCell ⟨A + 1, i, none⟩ (.slice (some ⟨g, lo * 2, none⟩) (hh - lo) (hh - lo))).drew) := ⟨_, (rfl : (V.setCell ⟨A + 1, i, none⟩ (.slice (some ⟨g, lo * 2, none⟩) (hh - lo) (hh - lo))).drew = _)⟩
  rw [← HVd.out]
  have bd : Bel (V.setCell ⟨A + 1, i, none⟩ (.slice (some ⟨g, lo * 2, none⟩) (hh - lo) (hh - lo))) Vd := by rw [HVd.out]; exact Bel.drew (Bel.refl _)
  have Z0 : Blk Vd A [.pointer (some ⟨B, 0, none⟩)] := (Y0.far (by omega)).bel bd
  have Z1 : Hid (Blk Vd (A + 1) (ctR g S m (k + 1))) := by
   have := (Y1.set i (.slice (some ⟨g, lo * 2, none⟩) (hh - lo) (hh - lo)) (by rw [ctR_len]; omega)).bel bd
   rw [← HVC.out, HE.out] at this
   exact this
  have Z2 : Blk Vd (A + 1 + 1) [.slice (some ⟨A + 1, 0, none⟩) m m] := (Y2.far (by omega)).bel bd
  have Z3 : Blk Vd (A + 1 + 1 + 1) [.int .i64 (hh : Int)] := (Y3.far (by omega)).bel bd
  have Zb : Bel w Vd := bel_step (bel_set Yb (by show w.heap.size ≤ A + 1; rw [HA.out]; omega) _) bd
  have Kd : KeepsOthers V Vd := (KeepsOthers.setCell V ⟨A + 1, i, none⟩ _).trans (KeepsOthers.of_grownBy (bel_none bd) (fun _ _ e => by cases e))
  have Pd0 : But2 W1.heap.size (A + 1) (A + 1 + 1 + 1) V (V.setCell ⟨A + 1, i, none⟩ (.slice (some ⟨g, lo * 2, none⟩) (hh - lo) (hh - lo))) := But2.set _ _ _ (.inl rfl)
  have Pd : But2 W1.heap.size (A + 1) (A + 1 + 1 + 1) V Vd := by rw [HVd.out]; exact ⟨Pd0.size, Pd0.cell⟩
  have zB : Vd.cell? ⟨B, 0, none⟩ = some (.slice (some ⟨g, 0, none⟩) n cp) := by
   rw [HVd.out]
   show (V.setCell _ _).cell? _ = _
   rw [World.cell?_setCell_other _ _ _ _ (fun e => by have := congrArg Addr.block e; simp at this; omega)]
   exact xB
  have z3 : Vd.cell? ⟨A + 1 + 1 + 1, 0, none⟩ = some (.int .i64 (hh : Int)) := Z3.cell 0 (by simp)
  have z3f := Z3.free
  have z3l := Z3.lt
  refine hK.out _ _ ⟨Z0.cell 0 (by simp), Z2.cell 0 (by simp), z3, zB⟩ (fun _ => ?_)
  refine wpAnyH_done (by kernel_rfl) ?_ _
  have HO : Hid (CtI w A B m q g S (k + 1) (Vd.setCell ⟨A + 1 + 1 + 1, 0, none⟩ (.int .i64 (lo : Int)))) := by
   refine ⟨Z0.far (by omega), Z1.out.far (by omega), Z2.far (by omega), ?_, bel_set Zb (by show w.heap.size ≤ A + 1 + 1 + 1; rw [HA.out]; omega) _⟩
   have := Z3.set 0 (.int .i64 (lo : Int)) (by simp)
   rw [HF.out, Hlo.out]
   exact this
  have HP : Hid (But2 (A + 5) (A + 1) (A + 1 + 1 + 1) V (Vd.setCell ⟨A + 1 + 1 + 1, 0, none⟩ (.int .i64 (lo : Int)))) := by rw [hs1] at Pd; exact Pd.trans (But2.set _ _ _ (.inr rfl))
  clear x0 x1 x2 x3 xB f1 f3 Y0 Y1 Y2 Y3 Yb hHeld hK Z0 Z2 Z3 Zb bd zB
  gi_wp2
  exact ⟨Kd.trans (KeepsOthers.setCell _ _ _), HP.out, HO.out⟩
 case done =>
  intro D V hD hI hdf
  have HJ : Hid (CtI w A B m q g S m (V.putObj D (.deferred none))) := (CtI.own HA.out (n := A + 5) (by omega)).putObj _ hI (by omega) hdf rfl
  have z2 : V.cell? ⟨A + 1 + 1, 0, none⟩ = some (.slice (some ⟨A + 1, 0, none⟩) m m) := hI.var.cell 0 (by simp)
  have z2l := hI.var.lt
  clear hst HI0 hI
  gi_wp2
  refine ⟨by simp, .inl ⟨_, _, rfl, run_takeDeferred hdf, ?_⟩⟩
  refine ⟨.slice (some ⟨A + 1, 0, none⟩) m m, ?_, g, cp, by rw [HA.out], ?_, by rw [HA.out]; exact HJ.out.rows, HJ.out.bel⟩
  ·simp [results, Tryz.results100, go_sem]
  ·intro h0
   rw [Hn.out] at h0 ⊢
   rw [HV.out, Hg.out h0]
end Go.Proofs.YtldfcnlhjjiihaaGreat
