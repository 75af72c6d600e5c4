/-
  Turns forbidden, in the program: contract of Forbid.
-/
import Derived.Test.YtiagdabikbjbiaaToldG
import Derived.Test.YtiagdabikbjbiaaNetX
import Derived.Test.YtiagdabikbjbiaaFrbI
import Derived.Test.YtiagdabikbjbiaaRowsI
namespace Go.Proofs.Ytiagdabikbjbiaa
open Go.RowKit Go.Maps

/-- One turn forbidden. -/
def fb1 (g : GraphD) (L : List BanD) (t : List Int) : List BanD :=
  if t.length = 3 then (spl g.places (t.getD 1 0)).elim L fun p => frbB L (wyL (bgF g.roads g.roads.length false p) g.roads (t.getD 0 0)) (wyL (bgF g.roads g.roads.length true p) g.roads (t.getD 2 0)) else L
/-- The first k of them. -/
def fbL (g : GraphD) (ways : List (List Int)) (k : Nat) : List BanD := (ways.take k).foldl (fb1 g) g.bans
noncomputable def fbQ (g : GraphD) (ways : List (List Int)) : GraphD := @ite _ (graphP g ∧ ways.length ≤ 2000) (Classical.propDecidable _) (tldQ g (fbL g ways ways.length)) ⟨[], [], []⟩
theorem fbQ_yes {g : GraphD} {ways : List (List Int)} (h : graphP g ∧ ways.length ≤ 2000) : fbQ g ways = tldQ g (fbL g ways ways.length) := @if_pos _ (Classical.propDecidable _) h _ _ _
theorem fbQ_no {g : GraphD} {ways : List (List Int)} (h : ¬ (graphP g ∧ ways.length ≤ 2000)) : fbQ g ways = ⟨[], [], []⟩ := @if_neg _ (Classical.propDecidable _) h _ _ _
theorem frbB_len {L : List BanD} (h : L.length ≤ 2001) (into : List Int) : ∀ fr : List Int, (frbB L fr into).length ≤ 2001 := fun fr => by
  unfold frbB
  induction fr generalizing L with
  | nil => exact h
  | cons f r ih => rw [List.foldl_cons]; exact ih (onto_len h f into)
theorem fb1_len {g : GraphD} {L : List BanD} (h : L.length ≤ 2001) (t : List Int) : (fb1 g L t).length ≤ 2001 := by
  unfold fb1
  split
  · cases spl g.places (t.getD 1 0) with
    | none => exact h
    | some p => exact frbB_len h _ _
  · exact h
theorem fb1_three (g : GraphD) (L : List BanD) (y0 y1 y2 : Int) : fb1 g L [y0, y1, y2] = (spl g.places y1).elim L fun p => frbB L (wyL (bgF g.roads g.roads.length false p) g.roads y0) (wyL (bgF g.roads g.roads.length true p) g.roads y2) := by
  unfold fb1
  exact if_pos rfl
theorem fbL_step {g : GraphD} {ways : List (List Int)} {k : Nat} (hk : k < ways.length) : fbL g ways (k + 1) = fb1 g (fbL g ways k) ways[k] := by
  unfold fbL
  rw [List.take_succ_eq_append_getElem hk, List.foldl_append]
  rfl
theorem fbL_len {g : GraphD} {ways : List (List Int)} (h : g.bans.length ≤ 2000) : ∀ k, (fbL g ways k).length ≤ 2001 := by
  intro k
  unfold fbL
  generalize ways.take k = l
  have : ∀ (l : List (List Int)) (L : List BanD), L.length ≤ 2001 → (l.foldl (fb1 g) L).length ≤ 2001 := by
    intro l
    induction l with
    | nil => intro L h; exact h
    | cons t r ih => intro L h; rw [List.foldl_cons]; exact ih _ (fb1_len h t)
  exact this l _ (by omega)

theorem grown_drew (w : World) (row : Option Nat) : w.grownBy w.drew row := ⟨rfl, rfl, rfl, Nat.le_refl _, fun _ _ _ => rfl⟩
def zerW (w U : World) : World := ((U.setCell ⟨w.heap.size + 1, 0, none⟩ (.slice none 0 0)).setCell ⟨w.heap.size + 1, 1, none⟩ (.slice none 0 0)).setCell ⟨w.heap.size + 1, 2, none⟩ (.slice none 0 0)
theorem zer_end {w U : World} (h : Blk U (w.heap.size + 1) [.slice none 0 0, .slice none 0 0, .slice none 0 0]) (hb : Bel w U) :
    (zerW w U).cell? ⟨w.heap.size + 1, 0, none⟩ = some (.slice none 0 0) ∧ (zerW w U).cell? ⟨w.heap.size + 1, 1, none⟩ = some (.slice none 0 0) ∧ (zerW w U).cell? ⟨w.heap.size + 1, 2, none⟩ = some (.slice none 0 0) ∧ Bel w (zerW w U) := by
  have XRz : Blk (zerW w U) (w.heap.size + 1) [.slice none 0 0, .slice none 0 0, .slice none 0 0] := ((h.set 0 (.slice none 0 0) (by simp)).set 1 (.slice none 0 0) (by simp)).set 2 (.slice none 0 0) (by simp)
  have hlo : w.heap.size ≤ w.heap.size + 1 := Nat.le_succ _
  exact ⟨XRz.cell 0 (by simp), XRz.cell 1 (by simp), XRz.cell 2 (by simp), bel_set (bel_set (bel_set hb hlo _) hlo _) hlo _⟩

set_option maxRecDepth 100000 in
set_option maxHeartbeats 4000000 in
theorem forbidI_any (v : Value) (g : GraphD) (bs : List Nat) (aw : Option Addr) (m cw : Nat) (ways : List (List Int)) (bw : List Nat) (w : World) (hV : GphV w v g bs) (hQ : GphQ g) (hW : IsL w aw ways bw) (hl : ways.length = m) (hm : m ≤ 1048576) :
    Calls Try.prog 10 #[v, .slice aw m cw] w fun e w' => ∃ v' bs', e = .returned v' ∧ GphV w' v' (fbQ g ways) bs' ∧ Fresh w w' bs' ∧ Bel w w' := by
  have HL : Hid (ways.length = m) := hl
  clear hl
  have hV' := hV
  obtain ⟨a0, c0, a1, c1, a2, c2, b0, b1, b2, _, rfl, t0, t1, t2⟩ := hV
  obtain ⟨n0, H0⟩ : ∃ n, Hid (g.places.length = n) := ⟨_, (rfl : g.places.length = _)⟩
  obtain ⟨n1, H1⟩ : ∃ n, Hid (g.roads.length = n) := ⟨_, (rfl : g.roads.length = _)⟩
  obtain ⟨n2, H2⟩ : ∃ n, Hid (g.bans.length = n) := ⟨_, (rfl : g.bans.length = _)⟩
  rw [H0.out, H1.out, H2.out] at hV' ⊢
  obtain ⟨R, HR⟩ : ∃ R, Hid (fbQ g ways = R) := ⟨_, (rfl : fbQ g ways = _)⟩
  rw [HR.out]
  obtain ⟨V, HV⟩ : ∃ V, Hid (V = (w.alloc (.cells #[.slice a0 n0 c0, .slice a1 n1 c1, .slice a2 n2 c2] 34)).alloc (.cells #[.slice none 0 0, .slice none 0 0, .slice none 0 0] 34)) := ⟨_, (rfl : (w.alloc (.cells #[.slice a0 n0 c0, .slice a1 n1 c1, .slice a2 n2 c2] 34)).alloc (.cells #[.slice none 0 0, .slice none 0 0, .slice none 0 0] 34) = _)⟩
  have hBV : Bel w V := by rw [HV.out]; exact bel_alloc (bel_alloc (Bel.refl _) _) _
  have XG : Blk V w.heap.size [.slice a0 n0 c0, .slice a1 n1 c1, .slice a2 n2 c2] := by rw [HV.out]; exact (Blk.new w [.slice a0 n0 c0, .slice a1 n1 c1, .slice a2 n2 c2] _).bel (bel_alloc (Bel.refl _) _)
  have XR : Blk V (w.heap.size + 1) [.slice none 0 0, .slice none 0 0, .slice none 0 0] := by rw [HV.out]; exact Blk.new1 w _ [.slice none 0 0, .slice none 0 0, .slice none 0 0] _
  have hlo : w.heap.size ≤ w.heap.size + 1 := Nat.le_succ _
  have xg0 : V.cell? ⟨w.heap.size, 0, none⟩ = some (.slice a0 n0 c0) := XG.cell 0 (by simp)
  have xg1 : V.cell? ⟨w.heap.size, 1, none⟩ = some (.slice a1 n1 c1) := XG.cell 1 (by simp)
  have xg2 : V.cell? ⟨w.heap.size, 2, none⟩ = some (.slice a2 n2 c2) := XG.cell 2 (by simp)
  have xgl := XG.lt
  go_enter Try.func10, Try.ntmps10
  go_upto_region 1 with fail
  rw [← HV.out]
  by_cases hP : graphP g
  rotate_left
  · have HF : Hid (R = ⟨[], [], []⟩) := (by rw [← HR.out]; exact fbQ_no (fun h => hP h.1) : R = ⟨[], [], []⟩)
    go_wp2_with fail
    refine (networkOf_noX a0 n0 c0 a1 n1 c1 a2 n2 c2 g bs V (hV'.bel hBV) hQ hP).mono ?_
    rintro e w1 ⟨rfl, hb1⟩
    obtain ⟨U, HU⟩ : ∃ U, Hid (U = w1.alloc (.cells #[.slice none 0 0, .slice none 0 0, .slice none 0 0, .slice none 0 0, .slice none 0 0, .map none] 59)) := ⟨_, (rfl : w1.alloc (.cells #[.slice none 0 0, .slice none 0 0, .slice none 0 0, .slice none 0 0, .slice none 0 0, .map none] 59) = _)⟩
    have hBU : Bel V U := by rw [HU.out]; exact bel_alloc hb1 _
    have XRU := XR.bel hBU
    have r0 : U.cell? ⟨w.heap.size + 1, 0, none⟩ = some (.slice none 0 0) := XRU.cell 0 (by simp)
    have r1 : U.cell? ⟨w.heap.size + 1, 1, none⟩ = some (.slice none 0 0) := XRU.cell 1 (by simp)
    have r2 : U.cell? ⟨w.heap.size + 1, 2, none⟩ = some (.slice none 0 0) := XRU.cell 2 (by simp)
    have f0 := XRU.free 0
    have f1 := XRU.free 1
    have f2 := XRU.free 2
    have rl := XRU.lt
    obtain ⟨s0, s1, s2, hBX⟩ := zer_end XRU (bel_step hBV hBU)
    have HX : Hid (zerW w U = ((U.setCell ⟨w.heap.size + 1, 0, none⟩ (.slice none 0 0)).setCell ⟨w.heap.size + 1, 1, none⟩ (.slice none 0 0)).setCell ⟨w.heap.size + 1, 2, none⟩ (.slice none 0 0)) := (rfl : zerW w U = _)
    generalize zerW w U = X at s0 s1 s2 hBX HX
    go_upto_region 2 with fail
    rw [← HU.out]
    go_wp2
    rw [← HX.out]
    refine bodyPost_ret (v := .agg #[.slice none 0 0, .slice none 0 0, .slice none 0 0]) (by simp [results, Try.results10, go_sem, s0, s1, s2]) rfl ⟨_, [], rfl, ?_, Fresh.nil _ _, hBX⟩
    rw [HF.out]
    exact ⟨none, 0, none, 0, none, 0, [], [], [], rfl, rfl, Sl.nil, Sl.nil, Sl.nil⟩
  go_wp2_with fail
  refine (networkOf_yesX a0 n0 c0 a1 n1 c1 a2 n2 c2 g b0 b1 b2 V (t0.bel spotE hBV) (t1.bel roadE hBV) (t2.bel banE hBV) H0.out H1.out H2.out hP).mono ?_
  rintro e w1 ⟨lo, Bb, Be, M, Vt, rfl, hT, hX, hMlo, hMb, hMe, hge, hb1⟩
  rw [H0.out] at hT ⊢
  rw [H1.out] at hT
  obtain ⟨U, HU⟩ : ∃ U, Hid (U = w1.alloc (.cells #[.slice a0 n0 c0, .slice a1 n1 c1, .slice a2 n2 c2, .slice (some ⟨Bb, 0, none⟩) n0 n0, .slice (some ⟨Be, 0, none⟩) n0 n0, .map (some M)] 59)) := ⟨_, (rfl : w1.alloc (.cells #[.slice a0 n0 c0, .slice a1 n1 c1, .slice a2 n2 c2, .slice (some ⟨Bb, 0, none⟩) n0 n0, .slice (some ⟨Be, 0, none⟩) n0 n0, .map (some M)] 59) = _)⟩
  have hB1U : Bel w1 U := by rw [HU.out]; exact bel_alloc (Bel.refl _) _
  have hBU : Bel V U := bel_step hb1 hB1U
  have XN : Blk U w1.heap.size [.slice a0 n0 c0, .slice a1 n1 c1, .slice a2 n2 c2, .slice (some ⟨Bb, 0, none⟩) n0 n0, .slice (some ⟨Be, 0, none⟩) n0 n0, .map (some M)] := by rw [HU.out]; exact Blk.new w1 [.slice a0 n0 c0, .slice a1 n1 c1, .slice a2 n2 c2, .slice (some ⟨Bb, 0, none⟩) n0 n0, .slice (some ⟨Be, 0, none⟩) n0 n0, .map (some M)] _
  have XRU := XR.bel hBU
  have hTU := hT.bel hB1U
  have hXU := hX.bel hB1U
  have hMl := hX.lt
  have hB0U := bel_step hBV hBU
  have hws : w.heap.size + 1 < V.heap.size := XR.lt
  clear XG xg0 xg1 xg2 xgl hT hX
  go_upto_region 2 with fail
  rw [← HU.out]
  by_cases hk : m ≤ 2000
  rotate_left
  · have HF : Hid (R = ⟨[], [], []⟩) := (by rw [← HR.out]; exact fbQ_no (fun h => hk (by rw [← HL.out]; exact h.2)) : R = ⟨[], [], []⟩)
    have hkd : (2000 : Int) < (m : Int) := by omega
    have r0 : U.cell? ⟨w.heap.size + 1, 0, none⟩ = some (.slice none 0 0) := XRU.cell 0 (by simp)
    have r1 : U.cell? ⟨w.heap.size + 1, 1, none⟩ = some (.slice none 0 0) := XRU.cell 1 (by simp)
    have r2 : U.cell? ⟨w.heap.size + 1, 2, none⟩ = some (.slice none 0 0) := XRU.cell 2 (by simp)
    have f0 := XRU.free 0
    have f1 := XRU.free 1
    have f2 := XRU.free 2
    have rl := XRU.lt
    obtain ⟨s0, s1, s2, hBX⟩ := zer_end XRU hB0U
    have HX : Hid (zerW w U = ((U.setCell ⟨w.heap.size + 1, 0, none⟩ (.slice none 0 0)).setCell ⟨w.heap.size + 1, 1, none⟩ (.slice none 0 0)).setCell ⟨w.heap.size + 1, 2, none⟩ (.slice none 0 0)) := (rfl : zerW w U = _)
    generalize zerW w U = X at s0 s1 s2 hBX HX
    clear XN hTU hXU
    go_wp2
    rw [← HX.out]
    refine bodyPost_ret (v := .agg #[.slice none 0 0, .slice none 0 0, .slice none 0 0]) (by simp [results, Try.results10, go_sem, s0, s1, s2]) rfl ⟨_, [], rfl, ?_, Fresh.nil _ _, hBX⟩
    rw [HF.out]
    exact ⟨none, 0, none, 0, none, 0, [], [], [], rfl, rfl, Sl.nil, Sl.nil, Sl.nil⟩
  have HF : Hid (R = tldQ g (fbL g ways m)) := (by rw [← HR.out, fbQ_yes ⟨hP, by rw [HL.out]; exact hk⟩, HL.out] : R = tldQ g (fbL g ways m))
  have hkd : ¬ (2000 : Int) < (m : Int) := by omega
  have hb2 : g.bans.length ≤ 2000 := hP.1.2.2
  have m0 : n0 ≤ 5000 := by rw [← H0.out]; exact hP.1.1
  have m1 : n1 ≤ 8000 := by rw [← H1.out]; exact hP.1.2.1
  have HSP : Hid (spotsP g.places) := hP.2.1
  have HLL : Hid (∀ k, (fbL g ways k).length ≤ 2001) := fun k => fbL_len hb2 k
  go_wp2_with fail
  go_loopw [24] (fun i wr => ∃ k : Nat, k ≤ m ∧ i = .int .i64 k ∧ BX wr M (fbL g ways k) ∧ U.grownBy wr (some M)) (fun i _ => m - (intOf i).toNat)
  case atStart => exact ⟨0, Nat.zero_le _, rfl, hXU, World.grownBy.refl _ _⟩
  case round =>
    obtain ⟨k, hk1, rfl, hX, hgr⟩ := hrel
    have hne1 : w1.heap.size ≠ M := by omega
    have hBr : Bel w wr := bel_grow hB0U hgr (fun j e => by injection e with e; omega)
    have XNr := XN.kept hgr (fun e => hne1 (by injection e))
    have XRr := XRU.kept hgr (fun e => by injection e with e; omega)
    have hTr := hTU.kept hgr hMlo (by exact hMb) (by exact hMe)
    have x0 : wr.cell? ⟨w1.heap.size, 0, none⟩ = some (.slice a0 n0 c0) := XNr.cell 0 (by simp)
    have x1 : wr.cell? ⟨w1.heap.size, 1, none⟩ = some (.slice a1 n1 c1) := XNr.cell 1 (by simp)
    have x2 : wr.cell? ⟨w1.heap.size, 2, none⟩ = some (.slice a2 n2 c2) := XNr.cell 2 (by simp)
    have x3 : wr.cell? ⟨w1.heap.size, 3, none⟩ = some (.slice (some ⟨Bb, 0, none⟩) n0 n0) := XNr.cell 3 (by simp)
    have x4 : wr.cell? ⟨w1.heap.size, 4, none⟩ = some (.slice (some ⟨Be, 0, none⟩) n0 n0) := XNr.cell 4 (by simp)
    have x5 : wr.cell? ⟨w1.heap.size, 5, none⟩ = some (.map (some M)) := XNr.cell 5 (by simp)
    have xl := XNr.lt
    have t0r := t0.bel spotE hBr
    have t1r := t1.bel roadE hBr
    by_cases hlt : k < m
    · have hkl : k < ways.length := by rw [HL.out]; exact hlt
      have hlt' : (k : Int) < (m : Int) := by omega
      obtain ⟨b, off, f, rfl, hb, hx⟩ := hW.out hkl
      obtain ⟨ar, cr, hlr, cr0, hI⟩ := hx k hkl
      have HST : Hid (fbL g ways (k + 1) = fb1 g (fbL g ways k) ways[k]) := fbL_step hkl
      obtain ⟨t, Ht⟩ : ∃ t, ways[k] = t := ⟨_, rfl⟩
      rw [Ht] at cr0 hlr hI HST
      rw [Nat.mul_one] at cr0
      have cr0 := bel_cellM hBr hb cr0
      clear hx Ht hBV
      by_cases h3 : t.length = 3
      · obtain ⟨y0, y1, y2, rfl⟩ : ∃ y0 y1 y2, t = [y0, y1, y2] := by
          match t, h3 with
          | [y0, y1, y2], _ => exact ⟨y0, y1, y2, rfl⟩
        obtain ⟨br, ofr, fr, rfl, hbr, hxr⟩ := hI.out (k := 0) (by simp)
        have z0 := (hxr 0 (by simp)).2.2
        have z1 := (hxr 1 (by simp)).2.2
        have z2 := (hxr 2 (by simp)).2.2
        simp only [Nat.mul_one, Nat.add_zero, List.getElem_cons_zero, List.getElem_cons_succ] at z0 z1 z2
        simp only [List.length_cons, List.length_nil, Nat.zero_add, Nat.reduceAdd] at cr0
        have HFB : Hid (fbL g ways (k + 1) = (spl g.places y1).elim (fbL g ways k) fun p => frbB (fbL g ways k) (wyL (bgF g.roads n1 false p) g.roads y0) (wyL (bgF g.roads n1 true p) g.roads y2)) := by
          have e := HST.out
          rw [fb1_three, H1.out] at e
          exact e
        have hbM : br ≠ M := by omega
        have z0 := bel_cellM hBr hbr z0
        have z1 := bel_cellM hBr hbr z1
        have z2 := bel_cellM hBr hbr z2
        have hbr : br < wr.heap.size := bel_lt hBr hbr
        have hS : ∀ w', wr.grownBy w' (some M) → w'.cell? ⟨w1.heap.size, 0, none⟩ = some (.slice a0 n0 c0) ∧ w'.cell? ⟨w1.heap.size, 1, none⟩ = some (.slice a1 n1 c1) ∧ w'.cell? ⟨w1.heap.size, 2, none⟩ = some (.slice a2 n2 c2) ∧ w'.cell? ⟨w1.heap.size, 3, none⟩ = some (.slice (some ⟨Bb, 0, none⟩) n0 n0) ∧ w'.cell? ⟨w1.heap.size, 4, none⟩ = some (.slice (some ⟨Be, 0, none⟩) n0 n0) ∧ w'.cell? ⟨w1.heap.size, 5, none⟩ = some (.map (some M)) ∧ w1.heap.size < w'.heap.size ∧ w'.cell? ⟨br, ofr, none⟩ = some (.int .i64 y0) ∧ w'.cell? ⟨br, ofr + 1, none⟩ = some (.int .i64 y1) ∧ w'.cell? ⟨br, ofr + 2, none⟩ = some (.int .i64 y2) := fun w' h => by
          have X := XNr.kept h (fun e => hne1 (by injection e))
          have hk := h.block br hbr (fun e => hbM (by injection e))
          exact ⟨X.cell 0 (by simp), X.cell 1 (by simp), X.cell 2 (by simp), X.cell 3 (by simp), X.cell 4 (by simp), X.cell 5 (by simp), X.lt, (World.cell?_of_block hk).trans z0, (World.cell?_of_block hk).trans z1, (World.cell?_of_block hk).trans z2⟩
        have HSP' := HSP.out
        go_wp2_with fail
        refine wp_region_noPanic ?_
        refine wp_region_held_drew (S := fun w' => w'.cell? ⟨w1.heap.size, 0, none⟩ = some (.slice a0 n0 c0) ∧ w'.cell? ⟨w1.heap.size, 1, none⟩ = some (.slice a1 n1 c1) ∧ w'.cell? ⟨w1.heap.size, 2, none⟩ = some (.slice a2 n2 c2) ∧ w'.cell? ⟨w1.heap.size, 3, none⟩ = some (.slice (some ⟨Bb, 0, none⟩) n0 n0) ∧ w'.cell? ⟨w1.heap.size, 4, none⟩ = some (.slice (some ⟨Be, 0, none⟩) n0 n0) ∧ w'.cell? ⟨w1.heap.size, 5, none⟩ = some (.map (some M)) ∧ w1.heap.size < w'.heap.size ∧ w'.cell? ⟨br, ofr, none⟩ = some (.int .i64 y0) ∧ w'.cell? ⟨br, ofr + 1, none⟩ = some (.int .i64 y1) ∧ w'.cell? ⟨br, ofr + 2, none⟩ = some (.int .i64 y2)) (by kernel_rfl) (hS _ (grown_drew _ _)) (fun hHeld => ?_)
        have hY0 : Bel wr wr.drew := Bel.drew (Bel.refl _)
        have hYg : wr.grownBy wr.drew (some M) := grown_drew _ _
        generalize wr.drew = Y at hHeld hY0 hYg ⊢
        refine tk 0 hHeld ?_; refine tk 1 hHeld ?_; refine tk 2 hHeld ?_; refine tk 3 hHeld ?_; refine tk 4 hHeld ?_; refine tk 5 hHeld ?_; refine tk 6 hHeld ?_; refine tk 7 hHeld ?_; refine tk 8 hHeld ?_; refine tk 9 hHeld ?_
        refine rd1 10 (fun K hK => ?_)
        go_simp
        refine (forbid_any lo Bb Be M Vt a0 n0 c0 a1 n1 c1 a2 n2 c2 g (fbL g ways k) b0 b1 y0 y1 y2 Y (hTr.bel hY0) (hX.bel hY0) (HLL.out k) (t0r.bel spotE hY0) (t1r.bel roadE hY0) H0.out H1.out m0 m1 HSP' hMlo).mono ?_
        rintro e w3 ⟨rfl, hX3, hg3⟩
        have hg3' := hYg.trans hg3
        rw [← HFB.out] at hX3
        go_wp2_with fail
        refine hK.out _ _ (hS _ hg3') (fun hHeld' => ?_)
        clear hK K hHeld
        refine wpAnyH_done (by kernel_rfl) ?_ _
        refine NoPanic.normal ?_
        clear hHeld'
        go_wp2
        go_roundw
        case rel => exact ⟨k + 1, by omega, by go_num, hX3, hgr.trans hg3'⟩
        case measure => simp [intOf]; omega
      · have HFB : Hid (fbL g ways (k + 1) = fbL g ways k) := by
          have e := HST.out
          unfold fb1 at e
          rw [if_neg h3] at e
          exact e
        have h3' : ((t.length : Int) == 3) = false := by rw [beq_eq_false_iff_ne]; omega
        clear h3
        go_wp2
        go_roundw
        case rel => exact ⟨k + 1, by omega, by go_num, by rw [HFB.out]; exact hX, hgr⟩
        case measure => simp [intOf]; omega
    · obtain rfl : k = m := by omega
      have hms : ∀ j, some M = some j → w.heap.size ≤ j := fun j e => by injection e with e; omega
      have hll := HLL.out k
      go_wp2_with fail
      refine (told_any a0 n0 c0 a1 n1 c1 a2 n2 c2 Bb Be M g (fbL g ways k) b0 b1 wr t0r t1r H0.out H1.out m0 m1 hX hll).mono ?_
      rintro e w4 ⟨v4, b4, rfl, V4, F4, hb4⟩
      obtain ⟨p0, q0, p1, q1, p2, q2, d0, d1, d2, rfl, rfl, T0, T1, T2⟩ := V4
      rw [← HF.out] at T0 T1 T2 ⊢
      obtain ⟨s0, hs0⟩ : ∃ n, R.places.length = n := ⟨_, rfl⟩
      obtain ⟨s1, hs1⟩ : ∃ n, R.roads.length = n := ⟨_, rfl⟩
      obtain ⟨s2, hs2⟩ : ∃ n, R.bans.length = n := ⟨_, rfl⟩
      have HS : Hid (R.places.length = s0 ∧ R.roads.length = s1 ∧ R.bans.length = s2) := ⟨hs0, hs1, hs2⟩
      rw [hs0, hs1, hs2]
      clear hs0 hs1 hs2
      have hB4 := bel_step hBr hb4
      have XR4 := XRr.bel hb4
      have r0 : w4.cell? ⟨w.heap.size + 1, 0, none⟩ = some (.slice none 0 0) := XR4.cell 0 (by simp)
      have r1 : w4.cell? ⟨w.heap.size + 1, 1, none⟩ = some (.slice none 0 0) := XR4.cell 1 (by simp)
      have r2 : w4.cell? ⟨w.heap.size + 1, 2, none⟩ = some (.slice none 0 0) := XR4.cell 2 (by simp)
      have f0 := XR4.free 0
      have f1 := XR4.free 1
      have f2 := XR4.free 2
      have rl := XR4.lt
      have hrw : w.heap.size + 1 < wr.heap.size := XRr.lt
      have hn : ∀ x ∈ d0 ++ (d1 ++ d2), x ≠ w.heap.size + 1 := fun x hx e => by have := (F4.new x hx).1; omega
      have hn0 : w.heap.size + 1 ∉ d0 := fun h => hn _ (List.mem_append.2 (.inl h)) rfl
      have hn1 : w.heap.size + 1 ∉ d1 := fun h => hn _ (List.mem_append.2 (.inr (List.mem_append.2 (.inl h)))) rfl
      have hn2 : w.heap.size + 1 ∉ d2 := fun h => hn _ (List.mem_append.2 (.inr (List.mem_append.2 (.inr h)))) rfl
      obtain ⟨X, HX⟩ : ∃ X, Hid (X = ((w4.setCell ⟨w.heap.size + 1, 0, none⟩ (.slice p0 s0 q0)).setCell ⟨w.heap.size + 1, 1, none⟩ (.slice p1 s1 q1)).setCell ⟨w.heap.size + 1, 2, none⟩ (.slice p2 s2 q2)) := ⟨_, (rfl : ((w4.setCell ⟨w.heap.size + 1, 0, none⟩ (.slice p0 s0 q0)).setCell ⟨w.heap.size + 1, 1, none⟩ (.slice p1 s1 q1)).setCell ⟨w.heap.size + 1, 2, none⟩ (.slice p2 s2 q2) = _)⟩
      have al : ∀ ds : List Nat, w.heap.size + 1 ∉ ds → (∀ x ∈ ds, x < w4.heap.size) → Alike w4 X ds := fun ds hd hl => by rw [HX.out]; exact (((Alike.refl hl).set hd _ _).set hd _ _).set hd _ _
      have HXv : Hid (GphV X (.agg #[.slice p0 s0 q0, .slice p1 s1 q1, .slice p2 s2 q2]) R (d0 ++ (d1 ++ d2))) := (by
        exact ⟨p0, q0, p1, q1, p2, q2, d0, d1, d2, rfl, by rw [HS.out.1, HS.out.2.1, HS.out.2.2], T0.alike spotE (al d0 hn0 (T0.lt spotE)), T1.alike roadE (al d1 hn1 (T1.lt roadE)), T2.alike banE (al d2 hn2 (T2.lt banE))⟩ : GphV X (.agg #[.slice p0 s0 q0, .slice p1 s1 q1, .slice p2 s2 q2]) R (d0 ++ (d1 ++ d2)))
      have HXF : Hid (Fresh w X (d0 ++ (d1 ++ d2))) := (by
        rw [HX.out]
        exact ⟨F4.nd, fun x hx => ⟨Nat.le_trans hBr.out.size (F4.new x hx).1, by simpa [World.setCell] using (F4.new x hx).2⟩, fun x hx j => by rw [World.frozen?_setCell, World.frozen?_setCell, World.frozen?_setCell]; exact F4.free x hx j⟩ : Fresh w X (d0 ++ (d1 ++ d2)))
      have HXB : Hid (Bel w X) := (by rw [HX.out]; exact bel_set (bel_set (bel_set hB4 hlo _) hlo _) hlo _ : Bel w X)
      have XRX : Blk X (w.heap.size + 1) [.slice p0 s0 q0, .slice p1 s1 q1, .slice p2 s2 q2] := by rw [HX.out]; exact ((XR4.set 0 _ (by simp)).set 1 _ (by simp)).set 2 _ (by simp)
      have u0 := XRX.cell 0 (by simp)
      have u1 := XRX.cell 1 (by simp)
      have u2 := XRX.cell 2 (by simp)
      simp only [List.getElem_cons_zero, List.getElem_cons_succ] at u0 u1 u2
      clear T0 T1 T2 F4 al hX hTr x0 x1 x2 x3 x4 x5
      go_wp2
      rw [← HX.out]
      exact bodyPost_ret (v := .agg #[.slice p0 s0 q0, .slice p1 s1 q1, .slice p2 s2 q2]) (by simp [results, Try.results10, go_sem, u0, u1, u2]) rfl ⟨_, _, rfl, HXv.out, HXF.out, HXB.out⟩
end Go.Proofs.Ytiagdabikbjbiaa
