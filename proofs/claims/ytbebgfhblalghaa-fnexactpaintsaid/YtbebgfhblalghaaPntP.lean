/-
  The painter of a style asked, in the program: contract.
-/
import Derived.Test.YtbebgfhblalghaaPntE
import Derived.Deep.Slices
namespace Go.Proofs.Ytbebgfhblalghaa
open Go.RowKit Go.Maps Go.Shelf Go.Deep

attribute [local go_sem] Oper.semAt_some

/-- The zero rule. -/
abbrev rul0 : Value := .agg #[.int .i64 0, .int .i64 0, .slice none 0 0, .bool false, .string ⟨#[]⟩, .int .i64 0, .int .i64 0]
/-- What is held in these cells. -/
def CellsAt (w : World) (B : Nat) (vs : List Value) : Prop := ∀ j u, vs[j]? = some u → w.cell? ⟨B, j, none⟩ = some u
theorem CellsAt.kept {W W' : World} {row : Option Nat} {B : Nat} {vs : List Value} (h : CellsAt W B vs) (hg : W.grownBy W' row) (hr : ∀ r, row = some r → ∃ o : Obj, W.heap[r]? = some o ∧ o.isCells = false) : CellsAt W' B vs :=
  fun j u hj => cell_kept (h j u hj) hg hr

/-- How a round may be left. -/
def PntX (rs : List RuleD) (ts : List TagD) (z : Int) (m : Nat) (hm : m ≤ rs.length) (w W1 : World) (c : Code) (pre : List (Fin m)) (W : World) : Prop :=
  ∃ pre' x, pre = pre' ++ [x] ∧ (∀ y ∈ pre', appB (rs[y.1]'(by have := y.2; omega)) ts z = false) ∧ appB (rs[x.1]'(by have := x.2; omega)) ts z = true ∧
    ((c = .exit 0 ∧ (rs[x.1]'(by have := x.2; omega)).hide = true ∧ Below W1.heap.size W1 W) ∨
     (c = .ret ∧ (rs[x.1]'(by have := x.2; omega)).hide = false ∧ Below w.heap.size w W ∧ ∃ a2 k2 bs2, Tests w a2 (rs[x.1]'(by have := x.2; omega)).tests bs2 ∧
       CellsAt W (w.heap.size + 1 + 1) (rulL (rs[x.1]'(by have := x.2; omega)) a2 (rs[x.1]'(by have := x.2; omega)).tests.length k2) ∧ CellsAt W (w.heap.size + 1 + 1 + 1) [.bool true]))
theorem pntX_own (rs : List RuleD) (ts : List TagD) (z : Int) (m : Nat) (hm : m ≤ rs.length) (w W1 : World) (hw : w.heap.size ≤ W1.heap.size) (c : Code) : OwnFrom W1.heap.size (PntX rs ts z m hm w W1 c) := by
  intro s A B row hs hg hr
  obtain ⟨pre', x, e, h1, h2, h3⟩ := hs
  have hr2 := fun r e => (hr r e).2
  refine ⟨pre', x, e, h1, h2, ?_⟩
  rcases h3 with ⟨e1, e2, hB⟩ | ⟨e1, e2, hB, a2, k2, bs2, t2, c1, c2⟩
  · exact .inl ⟨e1, e2, ownFrom_below (Nat.le_refl _) (Nat.le_refl _) s A B row hB hg hr⟩
  · exact .inr ⟨e1, e2, ownFrom_below (Nat.le_refl _) hw s A B row hB hg hr, a2, k2, bs2, t2, c1.kept hg hr2, c2.kept hg hr2⟩

theorem bwd_mem {m k : Nat} (h : k ≤ m) (y : Fin m) (hy : m - k ≤ y.1) : y ∈ bwd m k h := by
  have := y.2
  refine List.mem_iff_getElem.2 ⟨m - 1 - y.1, by rw [bwd_len]; omega, ?_⟩
  apply Fin.ext
  rw [bwd_get]
  omega
/-- The world behind the last stores of a painter that paints nothing. -/
def end0W (w W : World) : World := setRow (setRow W (w.heap.size + 1 + 1) 0 [.int .i64 0, .int .i64 0, .slice none 0 0, .bool false, .string ⟨#[]⟩, .int .i64 0, .int .i64 0]) (w.heap.size + 1 + 1 + 1) 0 [.bool false]
theorem end0 (w W : World) (D : Nat) (hB : Bel w W) (Y2 : Blk W (w.heap.size + 1 + 1) [.int .i64 0, .int .i64 0, .slice none 0 0, .bool false, .string ⟨#[]⟩, .int .i64 0, .int .i64 0]) (Y3 : Blk W (w.heap.size + 1 + 1 + 1) [.bool false]) (hD : w.heap.size ≤ D) (hK : W.heap[D]? = some (.deferred (some []))) :
    Hid ((end0W w W).heap[D]? = some (.deferred (some [])) ∧ CellsAt ((end0W w W).putObj D (.deferred none)) (w.heap.size + 1 + 1) [.int .i64 0, .int .i64 0, .slice none 0 0, .bool false, .string ⟨#[]⟩, .int .i64 0, .int .i64 0] ∧ CellsAt ((end0W w W).putObj D (.deferred none)) (w.heap.size + 1 + 1 + 1) [.bool false] ∧ Bel w ((end0W w W).putObj D (.deferred none))) := by
  have k1 : KeepsOthers W (end0W w W) := by
    show KeepsOthers W ((((((((W.setCell _ _).setCell _ _).setCell _ _).setCell _ _).setCell _ _).setCell _ _).setCell _ _).setCell _ _)
    exact ((((((((KeepsOthers.setCell _ _ _).trans (KeepsOthers.setCell _ _ _)).trans (KeepsOthers.setCell _ _ _)).trans (KeepsOthers.setCell _ _ _)).trans (KeepsOthers.setCell _ _ _)).trans (KeepsOthers.setCell _ _ _)).trans (KeepsOthers.setCell _ _ _)).trans (KeepsOthers.setCell _ _ _))
  have hK' := k1.same D _ hK rfl
  have hk := fun (r : Nat) (e : some D = some r) => (by cases e; exact ⟨_, hK', rfl⟩ : ∃ o : Obj, (end0W w W).heap[r]? = some o ∧ o.isCells = false)
  have c2 : CellsAt (end0W w W) (w.heap.size + 1 + 1) [.int .i64 0, .int .i64 0, .slice none 0 0, .bool false, .string ⟨#[]⟩, .int .i64 0, .int .i64 0] := by
    intro j u hj
    obtain ⟨hj', hu⟩ := List.getElem?_eq_some_iff.1 hj
    unfold end0W
    rw [setRow_other _ (by omega)]
    have := setRow_in (w.heap.size + 1 + 1) [.int .i64 0, .int .i64 0, .slice none 0 0, .bool false, .string ⟨#[]⟩, .int .i64 0, .int .i64 0] W 0 (fun i hi => by rw [Nat.zero_add]; exact ⟨_, Y2.cell i hi⟩) j hj'
    rw [Nat.zero_add] at this
    rw [this, hu]
  have c3 : CellsAt (end0W w W) (w.heap.size + 1 + 1 + 1) [.bool false] := by
    intro j u hj
    match j, hj with
    | 0, hj =>
      simp at hj
      subst hj
      have := setRow_in (w.heap.size + 1 + 1 + 1) [.bool false] (setRow W (w.heap.size + 1 + 1) 0 [.int .i64 0, .int .i64 0, .slice none 0 0, .bool false, .string ⟨#[]⟩, .int .i64 0, .int .i64 0]) 0 (fun i hi => by
        obtain rfl : i = 0 := by simp at hi; omega
        rw [setRow_other _ (by omega)]
        exact ⟨_, Y3.cell 0 (by simp)⟩) 0 (by simp)
      unfold end0W
      simpa using this
  have b1 : Bel w (end0W w W) := setRow_bel (setRow_bel hB (by omega) _ _) (by omega) _ _
  exact ⟨hK', c2.kept (grownBy_putObj' _ D _) hk, c3.kept (grownBy_putObj' _ D _) hk, b1.out.trans (belowK_b (w := w) (Nat.le_refl _) _ D _ _ hD hK' rfl rfl)⟩

set_option maxRecDepth 100000 in
set_option maxHeartbeats 8000000 in
theorem painter_any (A S : Nat) (rs : List RuleD) (a : Option Addr) (n c : Nat) (bs : List Nat) (at_ : Option Addr) (nt ct : Nat) (ts : List TagD) (bt : List Nat) (z : Int) (w : World) (hP : PnP w A S rs a n c) (hR : Rules w a rs bs) (hn : rs.length = n) (hm : n ≤ 1048576) (hT : Tags w at_ ts bt) (hnt : ts.length = nt) (hmt : nt ≤ 1048576) :
    Calls Try.prog 175 #[.slice at_ nt ct, .int .i64 z, .pointer (some ⟨A, 0, none⟩), .pointer (some ⟨S, 0, none⟩)] w fun e w' =>
      ((∃ i, ∃ h : i < rs.length, ∃ a2 k2 bs2, pntQ rs ts z = some i ∧ e = .returned (.tuple #[rulV rs[i] a2 rs[i].tests.length k2, .bool true]) ∧ Tests w' a2 rs[i].tests bs2) ∨ (pntQ rs ts z = none ∧ e = .returned (.tuple #[rul0, .bool false]))) ∧ Bel w w' := by
  obtain ⟨la, ls, cS, va, vc, bv, cA, hV⟩ := hP
  obtain ⟨m, Hm⟩ : ∃ m, Hid ((plR rs).length = m) := ⟨_, (rfl : (plR rs).length = _)⟩
  have hmr : m ≤ rs.length := by rw [← Hm.out]; unfold plR; split <;> simp
  have hpl : ∀ i (h : i < (plR rs).length) (h' : i < rs.length), (plR rs)[i] = rs[i] := fun i h h' => by
    have e : plR rs = rs := by unfold plR; split; rfl; rename_i hh; unfold plR at h; rw [if_neg hh] at h; simp at h
    simp [e]
  have HQ : Hid (pntQ rs ts z = pntI rs ts z m) := by
    unfold pntQ
    rw [Hm.out]
    have : plR rs = rs ∨ m = 0 := by
      rw [← Hm.out]; unfold plR; split
      · exact .inl rfl
      · exact .inr rfl
    rcases this with e | e
    · rw [e]; exact rfl
    · rw [e]; exact rfl
  rw [Hm.out] at cA
  have key : ∃ g : Nat → Nat × Nat × List Nat, (∀ i, i < m → ∃ h : i < rs.length, ApP w (g i).1 (g i).2.1 rs[i] (g i).2.2) ∧ (m = 0 ∨ ∃ b off, va = some ⟨b, off, none⟩ ∧ b < w.heap.size ∧ ∀ j, j < m → w.cell? ⟨b, off + j, none⟩ = some (apV (g j).1 (g j).2.1)) := by
    by_cases h0 : m = 0
    · exact ⟨fun _ => (0, 0, []), fun i hi => by omega, .inl h0⟩
    · obtain ⟨b, off, f, e, hb, hx⟩ := hV.out (k := 0) (by rw [Hm.out]; omega)
      obtain ⟨g, hg⟩ := choose_lt (n := m) (p := fun i (x : Nat × Nat × List Nat) => w.cell? ⟨b, off + i, none⟩ = some (apV x.1 x.2.1) ∧ ∃ h : i < rs.length, ApP w x.1 x.2.1 rs[i] x.2.2) (fun i hi => by
        have hi' : i < (plR rs).length := by rw [Hm.out]; exact hi
        obtain ⟨R, C, cs, _, hc, hA⟩ := hx i hi'
        simp only [Nat.mul_one] at hc
        exact ⟨(R, C, cs), hc, by omega, by rw [← hpl i hi' (by omega)]; exact hA⟩)
      exact ⟨g, fun i hi => (hg i hi).2, .inr ⟨b, off, e, hb, fun j hj => (hg j hj).1⟩⟩
  obtain ⟨g, hgA, hgV⟩ := key
  obtain ⟨R, hRe⟩ : ∃ R : Nat → Nat, ∀ i, (g i).1 = R i := ⟨_, fun _ => rfl⟩
  obtain ⟨C, hCe⟩ : ∃ C : Nat → Nat, ∀ i, (g i).2.1 = C i := ⟨_, fun _ => rfl⟩
  simp only [hRe, hCe] at hgA hgV
  have HA : Hid (∀ i, i < m → ∃ h : i < rs.length, ApP w (R i) (C i) rs[i] (g i).2.2) := hgA
  have HN : Hid (rs.length = n) := hn
  have hmn : m ≤ n := by rw [← hn]; exact hmr
  clear hV hpl hRe hCe hgA hn
  obtain ⟨W1, HW1⟩ : ∃ W, Hid (W = ((((w.alloc (.cells #[.slice at_ nt ct] 70)).alloc (.cells #[.int .i64 z] 2)).alloc (.cells #[.int .i64 0, .int .i64 0, .slice none 0 0, .bool false, .string ⟨#[]⟩, .int .i64 0, .int .i64 0] 68)).alloc (.cells #[.bool false] 4)).alloc (.cells #[.slice va m vc] 248)) := ⟨_, (rfl : ((((w.alloc (.cells #[.slice at_ nt ct] 70)).alloc (.cells #[.int .i64 z] 2)).alloc (.cells #[.int .i64 0, .int .i64 0, .slice none 0 0, .bool false, .string ⟨#[]⟩, .int .i64 0, .int .i64 0] 68)).alloc (.cells #[.bool false] 4)).alloc (.cells #[.slice va m vc] 248) = _)⟩
  have hB1 : Bel w W1 := by rw [HW1.out]; exact bel_alloc (bel_alloc (bel_alloc (bel_alloc (bel_alloc (Bel.refl _) _) _) _) _) _
  have hs1 : W1.heap.size = w.heap.size + 5 := by rw [HW1.out]; simp
  have X0 : Blk W1 w.heap.size [.slice at_ nt ct] := by rw [HW1.out]; exact (Blk.new w [.slice at_ nt ct] _).bel (bel_alloc (bel_alloc (bel_alloc (bel_alloc (Bel.refl _) _) _) _) _)
  have X1 : Blk W1 (w.heap.size + 1) [.int .i64 z] := by rw [HW1.out]; exact (Blk.new1 w _ [.int .i64 z] _).bel (bel_alloc (bel_alloc (bel_alloc (Bel.refl _) _) _) _)
  have X2 : Blk W1 (w.heap.size + 1 + 1) [.int .i64 0, .int .i64 0, .slice none 0 0, .bool false, .string ⟨#[]⟩, .int .i64 0, .int .i64 0] := by rw [HW1.out]; exact (Blk.new2 w _ _ [.int .i64 0, .int .i64 0, .slice none 0 0, .bool false, .string ⟨#[]⟩, .int .i64 0, .int .i64 0] _).bel (bel_alloc (bel_alloc (Bel.refl _) _) _)
  have X3 : Blk W1 (w.heap.size + 1 + 1 + 1) [.bool false] := by rw [HW1.out]; exact (Blk.new2 (w.alloc _) _ _ [.bool false] _).bel (bel_alloc (Bel.refl _) _) |> fun h => by simpa using h
  have X4 : Blk W1 (w.heap.size + 1 + 1 + 1 + 1) [.slice va m vc] := by rw [HW1.out]; have := Blk.new2 ((w.alloc (.cells #[.slice at_ nt ct] 70)).alloc (.cells #[.int .i64 z] 2)) (.cells #[.int .i64 0, .int .i64 0, .slice none 0 0, .bool false, .string ⟨#[]⟩, .int .i64 0, .int .i64 0] 68) (.cells #[.bool false] 4) [.slice va m vc] 248; simpa using this
  have hst : SeqStopsK Fence.wide 2 Try.prog 215 #[.pointer (some ⟨w.heap.size + 1 + 1 + 1 + 1, 0, none⟩)] (fun x : Fin m => #[.int .i64 (x.1 : Int), apV (R x.1) (C x.1)]) (Below W1.heap.size) (fun ys => ys = bwd m m (Nat.le_refl _)) (fun pre => ∃ k, ∃ h : k ≤ m, pre = bwd m k h) m W1 :=
    bwd_stops Fence.wide 2 trivial rfl (by omega) (w.heap.size + 1 + 1 + 1 + 1) W1.heap.size va m vc (fun j => apV (R j) (C j)) (by omega) W1 X4.lt (Nat.le_refl _) (X4.cell 0 (by simp)) (hgV.imp id fun ⟨b, off, e, hb, hc⟩ => ⟨b, off, e, by have := hB1.out.size; omega, fun j hj => (hB1.out.cell (p := ⟨b, off + j, none⟩) hb).trans (hc j hj)⟩)
  have la1 : A < w.heap.size + 1 := by omega
  have la2 : A < w.heap.size + 1 + 1 := by omega
  have la3 : A < w.heap.size + 1 + 1 + 1 := by omega
  clear hgV X4
  refine (callsIn_wide (n := 3)).1 ?_
  refine callsIn_of_wp_marks Try.func175 rfl trivial ?_ rfl
  simp only [Try.ntmps175, List.size_toArray, List.length_cons, List.length_nil, Nat.reduceAdd, Nat.reduceSub, Array.replicate_succ, Array.replicate_zero, List.push_toArray, List.append_toArray, List.nil_append, List.cons_append]
  gi_wp2_with (refine ⟨trivial, ?_⟩; gi_at_call 176; refine (callsIn_wide.2 (backward_any va m vc _)).mono ?_; rintro e w' ⟨rfl, rfl⟩)
  rw [← HW1.out]
  refine wpIn_rangeFunc_ownF rfl (by omega) (gf := 215) (lb := #[.pointer (some ⟨w.heap.size + 1 + 1 + 1 + 1, 0, none⟩)]) rfl trivial (enters_of Try.func215 (by kernel_rfl) rfl)
    hst belowK_t (belowK_b (Nat.le_refl _)) (Below.refl _ _) (fun _ => rfl)
    (fun pre W => (∀ y ∈ pre, appB (rs[y.1]'(by have := y.2; omega)) ts z = false) ∧ Below W1.heap.size W1 W)
    (PntX rs ts z m hmr w W1)
    (fun s P Q row hs hg hr => ⟨hs.1, ownFrom_below (Nat.le_refl _) (Nat.le_refl _) s P Q row hs.2 hg hr⟩)
    (pntX_own rs ts z m hmr w W1 (by omega))
    ⟨(fun y hy => by cases hy), Below.refl _ _⟩
    (fun x => { tmps := #[.slice at_ nt ct, .int .i64 z, .pointer (some ⟨A, 0, none⟩), .pointer (some ⟨S, 0, none⟩), .pointer (some ⟨w.heap.size, 0, none⟩), .pointer (some ⟨w.heap.size + 1, 0, none⟩), .pointer (some ⟨w.heap.size + 1 + 1, 0, none⟩), .pointer (some ⟨w.heap.size + 1 + 1 + 1, 0, none⟩), .int .i64 (x.1 : Int), apV (R x.1) (C x.1), .slice va m vc, .func (.func 215) #[] #[.pointer (some ⟨w.heap.size + 1 + 1 + 1 + 1, 0, none⟩)], .int .i64 (x.1 : Int), apV (R x.1) (C x.1), undef, undef, undef, undef, undef, undef, undef, undef, undef, undef, undef, undef, undef, undef, undef], defers := [] }) ?assign ?body ?done ?stop
  case assign =>
    intro l x W K hK
    gi_wp2
    exact hK
  case body =>
    rintro l pre x W ⟨hpre, hB⟩ _
    have hBW : Bel W1 W := hB
    have hBw := bel_step hB1 hBW
    obtain ⟨hx, hAp⟩ := HA.out x.1 x.2
    have cAp := apply_any (R x.1) (C x.1) rs[x.1] _ at_ nt ct ts bt z W (hAp.bel hBw) (hT.bel tagE hBw) hnt hmt
    have x0 : W.cell? ⟨w.heap.size, 0, none⟩ = some (.slice at_ nt ct) := (X0.bel hBW).cell 0 (by simp)
    have x1 : W.cell? ⟨w.heap.size + 1, 0, none⟩ = some (.int .i64 z) := (X1.bel hBW).cell 0 (by simp)
    obtain ⟨r, Hr⟩ : ∃ r, Hid (appB rs[x.1] ts z = r) := ⟨_, (rfl : appB rs[x.1] ts z = _)⟩
    rw [Hr.out] at cAp
    have hxl : rs.length = n := HN.out
    obtain ⟨b, off, f, rfl, hb, hxx⟩ := hR.out hx
    obtain ⟨_, _, _, _, _, c0, c1, c3, c4, c5, c6, a2, k2, _, c2, t2⟩ := hxx x.1 hx
    have hxi : (x.1 : Int) < (n : Int) := by omega
    obtain ⟨q, Hq⟩ : ∃ q, Hid (q = x.1) := ⟨_, (rfl : x.1 = _)⟩
    obtain ⟨d, Hd⟩ : ∃ d, Hid (d = rs[x.1]) := ⟨_, (rfl : rs[x.1] = _)⟩
    rw [← Hd.out] at c0 c1 c2 c3 c4 c5 c6 t2
    rw [← Hq.out] at c0 c1 c2 c3 c4 c5 c6 hxi cAp ⊢
    clear hxx hxl
    gi_wp2_with fail
    refine ⟨trivial, ?_⟩
    refine (CallsIn.inRound l (callsIn_wide.2 cAp)).mono ?_
    rintro e w1 ⟨rfl, hbk⟩
    have hBw1 := bel_step hBw hbk
    have hBW1 := bel_step hBW hbk
    have hK1 : KeepsOthers W w1 := KeepsOthers.of_grownBy (grown_of_bel hbk none) (fun _ _ e => by cases e)
    have hKp : Below W1.heap.size W w1 := hbk.out.mono hBW.out.size
    have s1 : w1.cell? ⟨S, 0, none⟩ = some (.slice (some ⟨b, off, none⟩) n c) := bel_cellM hBw1 ls cS
    have sl : S < w1.heap.size := bel_lt hBw1 ls
    have e0 : w1.cell? ⟨b, off + q * 7, none⟩ = some (.int .i64 d.low) := bel_cellM hBw1 hb c0
    have e1 : w1.cell? ⟨b, off + q * 7 + 1, none⟩ = some (.int .i64 d.high) := bel_cellM hBw1 hb c1
    have e2 : w1.cell? ⟨b, off + q * 7 + 2, none⟩ = some (.slice a2 d.tests.length k2) := bel_cellM hBw1 hb c2
    have e3 : w1.cell? ⟨b, off + q * 7 + 3, none⟩ = some (.bool d.hide) := bel_cellM hBw1 hb c3
    have e4 : w1.cell? ⟨b, off + q * 7 + 4, none⟩ = some (.string d.col) := bel_cellM hBw1 hb c4
    have e5 : w1.cell? ⟨b, off + q * 7 + 5, none⟩ = some (.int .i64 d.wd) := bel_cellM hBw1 hb c5
    have e6 : w1.cell? ⟨b, off + q * 7 + 6, none⟩ = some (.int .i64 d.lay) := bel_cellM hBw1 hb c6
    have Y2 := X2.bel hBW1
    have Y3 := X3.bel hBW1
    have y0 : w1.cell? ⟨w.heap.size + 1 + 1, 0, none⟩ = some (.int .i64 0) := Y2.cell 0 (by simp)
    have y1 : w1.cell? ⟨w.heap.size + 1 + 1, 1, none⟩ = some (.int .i64 0) := Y2.cell 1 (by simp)
    have y2 : w1.cell? ⟨w.heap.size + 1 + 1, 2, none⟩ = some (.slice none 0 0) := Y2.cell 2 (by simp)
    have y3 : w1.cell? ⟨w.heap.size + 1 + 1, 3, none⟩ = some (.bool false) := Y2.cell 3 (by simp)
    have y4 : w1.cell? ⟨w.heap.size + 1 + 1, 4, none⟩ = some (.string ⟨#[]⟩) := Y2.cell 4 (by simp)
    have y5 : w1.cell? ⟨w.heap.size + 1 + 1, 5, none⟩ = some (.int .i64 0) := Y2.cell 5 (by simp)
    have y6 : w1.cell? ⟨w.heap.size + 1 + 1, 6, none⟩ = some (.int .i64 0) := Y2.cell 6 (by simp)
    have y7 : w1.cell? ⟨w.heap.size + 1 + 1 + 1, 0, none⟩ = some (.bool false) := Y3.cell 0 (by simp)
    have f2 := Y2.free
    have f3 := Y3.free
    have l2 := Y2.lt
    have l3 := Y3.lt
    clear c0 c1 c2 c3 c4 c5 c6 x0 x1 cAp
    cases r
    · have HI : Hid ((∀ y ∈ pre ++ [x], appB (rs[y.1]'(by have := y.2; omega)) ts z = false) ∧ Below W1.heap.size W1 w1) := ⟨fun y hy => by
        rcases List.mem_append.1 hy with hy | hy
        · exact hpre y hy
        · obtain rfl : y = x := by simpa using hy
          exact Hr.out, hBW1⟩
      gi_wp2
      exact ⟨hK1, hKp, HI.out⟩
    · cases hh : d.hide
      · have HX : Hid (PntX rs ts z m hmr w W1 .ret (pre ++ [x]) (setRow (setRow w1 (w.heap.size + 1 + 1) 0 (rulL d a2 d.tests.length k2)) (w.heap.size + 1 + 1 + 1) 0 [.bool true])) := by
          refine ⟨pre, x, rfl, hpre, Hr.out, .inr ⟨rfl, by rw [← Hd.out]; exact hh, ?_, a2, k2, f x.1, by rw [← Hd.out]; exact t2, ?_, ?_⟩⟩
          · exact setRow_bel (setRow_bel hBw1 (by omega) _ _) (by omega) _ _
          · rw [← Hd.out]
            intro j u hj
            obtain ⟨hj', hu⟩ := List.getElem?_eq_some_iff.1 hj
            rw [setRow_other _ (by omega)]
            have := setRow_in (w.heap.size + 1 + 1) (rulL d a2 d.tests.length k2) w1 0 (fun i hi => by rw [Nat.zero_add]; exact ⟨_, Y2.cell i (by simpa [rulL] using hi)⟩) j hj'
            rw [Nat.zero_add] at this
            rw [this, hu]
          · intro j u hj
            match j, hj with
            | 0, hj =>
              simp at hj
              subst hj
              have := setRow_in (w.heap.size + 1 + 1 + 1) [.bool true] (setRow w1 (w.heap.size + 1 + 1) 0 (rulL d a2 d.tests.length k2)) 0 (fun i hi => by
                obtain rfl : i = 0 := by simp at hi; omega
                rw [setRow_other _ (by omega)]
                exact ⟨_, y7⟩) 0 (by simp)
              simpa using this
        rw [hh] at e3
        have HX2 : Hid (PntX rs ts z m hmr w W1 .ret (pre ++ [x]) (setRow (setRow w1 (w.heap.size + 1 + 1) 0 [.int .i64 d.low, .int .i64 d.high, .slice a2 d.tests.length k2, .bool false, .string d.col, .int .i64 d.wd, .int .i64 d.lay]) (w.heap.size + 1 + 1 + 1) 0 [.bool true])) := by
          have := HX.out; unfold rulL at this; rw [hh] at this; exact this
        clear HX Y2 Y3 t2
        gi_wp2
        exact ⟨(((((((hK1.trans (KeepsOthers.setCell _ _ _)).trans (KeepsOthers.setCell _ _ _)).trans (KeepsOthers.setCell _ _ _)).trans (KeepsOthers.setCell _ _ _)).trans (KeepsOthers.setCell _ _ _)).trans (KeepsOthers.setCell _ _ _)).trans (KeepsOthers.setCell _ _ _)).trans (KeepsOthers.setCell _ _ _), HX2.out⟩
      · have HX : Hid (PntX rs ts z m hmr w W1 (.exit 0) (pre ++ [x]) w1) := ⟨pre, x, rfl, hpre, Hr.out, .inl ⟨rfl, by rw [← Hd.out]; exact hh, hBW1⟩⟩
        rw [hh] at e3
        clear Y2 Y3 t2
        gi_wp2
        exact ⟨hK1, HX.out⟩
  case done =>
    rintro D xs W hD hxs ⟨hne, hB⟩ hK
    subst hxs
    have hBW : Bel W1 W := hB
    have HN0 : Hid (pntQ rs ts z = none) := by
      rw [HQ.out]
      exact pntI_none m fun j hj hjm => hne ⟨j, hjm⟩ (bwd_mem _ _ (by show m - m ≤ j; omega))
    have Y2 := X2.bel hBW
    have Y3 := X3.bel hBW
    have y0 : W.cell? ⟨w.heap.size + 1 + 1, 0, none⟩ = some (.int .i64 0) := Y2.cell 0 (by simp)
    have y1 : W.cell? ⟨w.heap.size + 1 + 1, 1, none⟩ = some (.int .i64 0) := Y2.cell 1 (by simp)
    have y2 : W.cell? ⟨w.heap.size + 1 + 1, 2, none⟩ = some (.slice none 0 0) := Y2.cell 2 (by simp)
    have y3 : W.cell? ⟨w.heap.size + 1 + 1, 3, none⟩ = some (.bool false) := Y2.cell 3 (by simp)
    have y4 : W.cell? ⟨w.heap.size + 1 + 1, 4, none⟩ = some (.string ⟨#[]⟩) := Y2.cell 4 (by simp)
    have y5 : W.cell? ⟨w.heap.size + 1 + 1, 5, none⟩ = some (.int .i64 0) := Y2.cell 5 (by simp)
    have y6 : W.cell? ⟨w.heap.size + 1 + 1, 6, none⟩ = some (.int .i64 0) := Y2.cell 6 (by simp)
    have y7 : W.cell? ⟨w.heap.size + 1 + 1 + 1, 0, none⟩ = some (.bool false) := Y3.cell 0 (by simp)
    have f2 := Y2.free
    have f3 := Y3.free
    have l2 := Y2.lt
    have l3 := Y3.lt
    have HE := end0 w W D (bel_step hB1 hBW) Y2 Y3 (by omega) hK
    clear Y2 Y3
    gi_wp2
    refine ⟨by simp, .inl ⟨_, _, rfl, run_takeDeferred HE.out.1, ?_⟩⟩
    refine ⟨.tuple #[rul0, .bool false], ?_, .inr ⟨HN0.out, rfl⟩, HE.out.2.2.2⟩
    change Sem.run _ _ ((end0W w W).putObj D (.deferred none)) = Result.ok _ ((end0W w W).putObj D (.deferred none))
    have q := HE.out.2
    obtain ⟨V, hV⟩ : ∃ V, (end0W w W).putObj D (.deferred none) = V := ⟨_, rfl⟩
    rw [hV] at q ⊢
    have d0 := q.1 0 _ rfl
    have d1 := q.1 1 _ rfl
    have d2 := q.1 2 _ rfl
    have d3 := q.1 3 _ rfl
    have d4 := q.1 4 _ rfl
    have d5 := q.1 5 _ rfl
    have d6 := q.1 6 _ rfl
    have d7 := q.2.1 0 _ rfl
    clear q hV HE
    simp [results, Try.results175, go_sem, d0, d1, d2, d3, d4, d5, d6, d7]
  case stop =>
    rintro D co pre W hD ⟨k, hk, hpk⟩ ⟨pre', x, hpx, hpre, ha, hX⟩ hK
    have hxk : x.1 + k = m ∧ 0 < k ∧ (∀ j (hj : j < m), x.1 < j → (⟨j, hj⟩ : Fin m) ∈ pre') := by
      have hl : pre'.length + 1 = k := by have := congrArg List.length (hpk.symm.trans hpx); rw [bwd_len] at this; simpa using this.symm
      obtain ⟨k', rfl⟩ : ∃ k', k = k' + 1 := ⟨pre'.length, by omega⟩
      rw [hpk, bwd_succ hk] at hpx
      obtain ⟨e1, e2⟩ := List.append_inj' hpx rfl
      have e3 : m - 1 - k' = x.1 := congrArg Fin.val (List.cons.inj e2).1
      refine ⟨by omega, by omega, fun j hj hxj => ?_⟩
      rw [← e1]
      exact bwd_mem _ _ (by show m - k' ≤ j; omega)
    have hxr : x.1 < rs.length := by have := x.2; omega
    have HP : Hid (pntQ rs ts z = if rs[x.1].hide = true then none else some x.1) := by
      rw [HQ.out]
      exact pntI_at hxr ha m x.2 hmr fun j _ hxj hjm => hpre ⟨j, hjm⟩ (hxk.2.2 j hjm hxj)
    rcases hX with ⟨rfl, hh, hB⟩ | ⟨rfl, hh, hB, a2, k2, bs2, t2, q2, q3⟩
    · have hBW : Bel W1 W := hB
      have HN0 : Hid (pntQ rs ts z = none) := by rw [HP.out, if_pos hh]; exact rfl
      have Y2 := X2.bel hBW
      have Y3 := X3.bel hBW
      have y0 : W.cell? ⟨w.heap.size + 1 + 1, 0, none⟩ = some (.int .i64 0) := Y2.cell 0 (by simp)
      have y1 : W.cell? ⟨w.heap.size + 1 + 1, 1, none⟩ = some (.int .i64 0) := Y2.cell 1 (by simp)
      have y2 : W.cell? ⟨w.heap.size + 1 + 1, 2, none⟩ = some (.slice none 0 0) := Y2.cell 2 (by simp)
      have y3 : W.cell? ⟨w.heap.size + 1 + 1, 3, none⟩ = some (.bool false) := Y2.cell 3 (by simp)
      have y4 : W.cell? ⟨w.heap.size + 1 + 1, 4, none⟩ = some (.string ⟨#[]⟩) := Y2.cell 4 (by simp)
      have y5 : W.cell? ⟨w.heap.size + 1 + 1, 5, none⟩ = some (.int .i64 0) := Y2.cell 5 (by simp)
      have y6 : W.cell? ⟨w.heap.size + 1 + 1, 6, none⟩ = some (.int .i64 0) := Y2.cell 6 (by simp)
      have y7 : W.cell? ⟨w.heap.size + 1 + 1 + 1, 0, none⟩ = some (.bool false) := Y3.cell 0 (by simp)
      have f2 := Y2.free
      have f3 := Y3.free
      have l2 := Y2.lt
      have l3 := Y3.lt
      have HE := end0 w W D (bel_step hB1 hBW) Y2 Y3 (by omega) hK
      clear Y2 Y3
      gi_wp2
      refine ⟨by simp, .inl ⟨_, _, rfl, run_takeDeferred HE.out.1, ?_⟩⟩
      refine ⟨.tuple #[rul0, .bool false], ?_, .inr ⟨HN0.out, rfl⟩, HE.out.2.2.2⟩
      change Sem.run _ _ ((end0W w W).putObj D (.deferred none)) = Result.ok _ ((end0W w W).putObj D (.deferred none))
      have q := HE.out.2
      obtain ⟨V, hV⟩ : ∃ V, (end0W w W).putObj D (.deferred none) = V := ⟨_, rfl⟩
      rw [hV] at q ⊢
      have d0 := q.1 0 _ rfl
      have d1 := q.1 1 _ rfl
      have d2 := q.1 2 _ rfl
      have d3 := q.1 3 _ rfl
      have d4 := q.1 4 _ rfl
      have d5 := q.1 5 _ rfl
      have d6 := q.1 6 _ rfl
      have d7 := q.2.1 0 _ rfl
      clear q hV HE
      simp [results, Try.results175, go_sem, d0, d1, d2, d3, d4, d5, d6, d7]
    · have HS : Hid (pntQ rs ts z = some x.1) := by rw [HP.out, if_neg (by rw [hh]; decide)]; exact rfl
      have hk := fun (r : Nat) (e : some D = some r) => (by cases e; exact ⟨_, hK, rfl⟩ : ∃ o : Obj, W.heap[r]? = some o ∧ o.isCells = false)
      have q2' := q2.kept (grownBy_putObj' _ D (.deferred none)) hk
      have q3' := q3.kept (grownBy_putObj' _ D (.deferred none)) hk
      have hBD : Bel w (W.putObj D (.deferred none)) := hB.trans (belowK_b (w := w) (Nat.le_refl _) W D _ _ (by omega) hK rfl rfl)
      gi_wp2
      refine ⟨by simp, .inl ⟨_, _, rfl, run_takeDeferred hK, ?_⟩⟩
      refine ⟨.tuple #[rulV rs[x.1] a2 rs[x.1].tests.length k2, .bool true], ?_, .inl ⟨x.1, hxr, a2, k2, bs2, HS.out, rfl, t2.bel testE hBD⟩, hBD⟩
      generalize W.putObj D (.deferred none) = V at q2' q3' ⊢
      have d0 := q2' 0 _ rfl
      have d1 := q2' 1 _ rfl
      have d2 := q2' 2 _ rfl
      have d3 := q2' 3 _ rfl
      have d4 := q2' 4 _ rfl
      have d5 := q2' 5 _ rfl
      have d6 := q2' 6 _ rfl
      have d7 := q3' 0 _ rfl
      clear q2 q3 q2' q3'
      simp [results, Try.results175, go_sem, d0, d1, d2, d3, d4, d5, d6, d7]
end Go.Proofs.Ytbebgfhblalghaa
