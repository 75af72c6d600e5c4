/-
  What a turn costs, in the program: contracts.
  What a turn costs, in the program, where it may be none: contract.
-/
import Derived.Test.YtponmbjflablcaaDoorTtM
import Derived.Test.YtponmbjflablcaaDoorTabG
import Derived.Test.YtponmbjflablcaaDoorHeadA
import Derived.Deep.QuietTactic
import Derived.Deep.RegionHeld3
namespace Go.Proofs.YtponmbjflablcaaDoor
open Go.RowKit Go.Maps

/-- A row in which the winds of the first k Roads stand. -/
structure Wnd (w : World) (B n k : Nat) (g : GraphD) : Prop where
  lt : B < w.heap.size
  done : ∀ i, i < k → w.cell? ⟨B, i, none⟩ = some (.int .i64 (hdR g i))
  there : ∀ i, i < n → ∃ u, w.cell? ⟨B, i, none⟩ = some u
  free : ∀ i, w.frozen? ⟨B, i, none⟩ = false
theorem Wnd.bel {w w' : World} {B n k : Nat} {g : GraphD} (h : Wnd w B n k g) (hb : Bel w w') : Wnd w' B n k g :=
  ⟨bel_lt hb h.lt, fun i hi => bel_cellM hb h.lt (h.done i hi), fun i hi => by obtain ⟨u, hu⟩ := h.there i hi; exact ⟨u, bel_cellM hb h.lt hu⟩, fun i => by rw [hb.out.frozen (p := ⟨B, i, none⟩) h.lt]; exact h.free i⟩
theorem Wnd.frx {X : Nat → Prop} {w w' : World} {B n k : Nat} {g : GraphD} (h : Wnd w B n k g) (hb : Frx X w w') (hx : X B) : Wnd w' B n k g := by
  have e := hb.block B h.lt hx
  exact ⟨Nat.lt_of_lt_of_le h.lt hb.size, fun i hi => by rw [World.cell?_of_block e]; exact h.done i hi, fun i hi => by rw [World.cell?_of_block e]; exact h.there i hi, fun i => by rw [World.frozen?_of_block e]; exact h.free i⟩
theorem Wnd.put {w : World} {B n k : Nat} {g : GraphD} (h : Wnd w B n k g) (hk : k < n) : Wnd (w.setCell ⟨B, k, none⟩ (.int .i64 (hdR g k))) B n (k + 1) g := by
  refine ⟨by simpa [World.setCell] using h.lt, fun i hi => ?_, fun i hi => ?_, fun i => by rw [World.frozen?_setCell]; exact h.free i⟩
  · by_cases e : i = k
    · subst e
      obtain ⟨u, hu⟩ := h.there i hk
      exact World.cell?_setCell_same _ _ _ hu
    · rw [World.cell?_setCell_other _ _ _ _ (fun e2 => e (by have := congrArg Addr.off e2; simpa using this.symm))]
      exact h.done i (by omega)
  · by_cases e : i = k
    · subst e
      obtain ⟨u, hu⟩ := h.there i hk
      exact ⟨_, World.cell?_setCell_same _ _ _ hu⟩
    · rw [World.cell?_setCell_other _ _ _ _ (fun e2 => e (by have := congrArg Addr.off e2; simpa using this.symm))]
      exact h.there i hi
theorem Wnd.new (w : World) (n : Nat) (t : TypeId) (g : GraphD) : Wnd (w.alloc (.cells (madeCells #[.int .i64 0] n) t)) w.heap.size n 0 g := by
  have h := heap_alloc_new w (.cells (madeCells #[.int .i64 0] n) t)
  refine ⟨by simp, fun i hi => by omega, fun i hi => ⟨.int .i64 0, ?_⟩, fun i => by simp only [World.frozen?, h]; rfl⟩
  simp only [World.cell?, h]
  rw [← Array.getElem?_toList, toList_madeCells_one]
  simp [hi]

set_option maxRecDepth 100000 in
set_option maxHeartbeats 2000000 in
theorem turning_any (a0 : Option Addr) (k0 c0 : Nat) (a1 : Option Addr) (n1 c1 : Nat) (a2 : Option Addr) (k2 c2 : Nat) (a3 : Option Addr) (k3 c3 : Nat) (a4 : Option Addr) (k4 c4 : Nat) (m5 : Option Nat) (Wd : Nat) (g : GraphD) (b1 : List Nat) (i j : Nat) (w : World) (t1 : RoadL w a1 g.roads b1) (e1 : g.roads.length = n1) (hi : i < n1) (hj : j < n1) (hW : Wnd w Wd n1 n1 g) :
    Calls Tryd.prog 71 #[.agg #[.slice a0 k0 c0, .slice a1 n1 c1, .slice a2 k2 c2, .slice a3 k3 c3, .slice a4 k4 c4, .map m5, .slice (some ⟨Wd, 0, none⟩) n1 n1], .agg #[.int .i64 (i : Int), .int .i64 (j : Int)]] w fun e w' => e = .returned (.int .i64 (tnC g i j)) ∧ Bel w w' := by
  have H1 : Hid (g.roads.length = n1) := e1
  have hil : i < g.roads.length := by rw [e1]; exact hi
  have hjl : j < g.roads.length := by rw [e1]; exact hj
  obtain ⟨b, off, f, rfl, hb, hx⟩ := t1.out hil
  obtain ⟨_, _, _, _, _, _, _, yi, _⟩ := hx i hil
  obtain ⟨_, _, _, _, _, _, _, _, yj, _⟩ := hx j hjl
  obtain ⟨P, HP⟩ : ∃ P, Hid (P = (rdAt g i).fr) := ⟨_, (rfl : (rdAt g i).fr = _)⟩
  obtain ⟨Q, HQ⟩ : ∃ Q, Hid (Q = (rdAt g j).to) := ⟨_, (rfl : (rdAt g j).to = _)⟩
  obtain ⟨A, HA⟩ : ∃ A, Hid (A = hdR g i) := ⟨_, (rfl : hdR g i = _)⟩
  obtain ⟨B, HB⟩ : ∃ B, Hid (B = hdR g j) := ⟨_, (rfl : hdR g j = _)⟩
  rw [show g.roads[i].fr = P by rw [HP.out, rdAt_eq hil]] at yi
  rw [show g.roads[j].to = Q by rw [HQ.out, rdAt_eq hjl]] at yj
  have wi := hW.done i hi
  have wj := hW.done j hj
  rw [← HA.out] at wi
  rw [← HB.out] at wj
  have hA := hdR_bd g i
  have hBd := hdR_bd g j
  rw [← HA.out] at hA
  rw [← HB.out] at hBd
  obtain ⟨hA0, hA1⟩ := hA
  obtain ⟨hB0, hB1⟩ := hBd
  have hWl := hW.lt
  obtain ⟨W, HW⟩ : ∃ W, Hid (W = (w.alloc (.cells #[.slice a0 k0 c0, .slice (some ⟨b, off, none⟩) n1 c1, .slice a2 k2 c2, .slice a3 k3 c3, .slice a4 k4 c4, .map m5, .slice (some ⟨Wd, 0, none⟩) n1 n1] 67)).alloc (.cells #[.int .i64 (i : Int), .int .i64 (j : Int)] 73)) := ⟨_, (rfl : (w.alloc (.cells #[.slice a0 k0 c0, .slice (some ⟨b, off, none⟩) n1 c1, .slice a2 k2 c2, .slice a3 k3 c3, .slice a4 k4 c4, .map m5, .slice (some ⟨Wd, 0, none⟩) n1 n1] 67)).alloc (.cells #[.int .i64 (i : Int), .int .i64 (j : Int)] 73) = _)⟩
  have hBW : Bel w W := by rw [HW.out]; exact bel_alloc (bel_alloc (Bel.refl _) _) _
  have XN : Blk W w.heap.size [.slice a0 k0 c0, .slice (some ⟨b, off, none⟩) n1 c1, .slice a2 k2 c2, .slice a3 k3 c3, .slice a4 k4 c4, .map m5, .slice (some ⟨Wd, 0, none⟩) n1 n1] := by rw [HW.out]; exact (Blk.new w [.slice a0 k0 c0, .slice (some ⟨b, off, none⟩) n1 c1, .slice a2 k2 c2, .slice a3 k3 c3, .slice a4 k4 c4, .map m5, .slice (some ⟨Wd, 0, none⟩) n1 n1] _).bel (bel_alloc (Bel.refl _) _)
  have XB : Blk W (w.heap.size + 1) [.int .i64 (i : Int), .int .i64 (j : Int)] := by rw [HW.out]; exact Blk.new1 w _ [.int .i64 (i : Int), .int .i64 (j : Int)] _
  have x1 : W.cell? ⟨w.heap.size, 1, none⟩ = some (.slice (some ⟨b, off, none⟩) n1 c1) := XN.cell 1 (by simp)
  have x6 : W.cell? ⟨w.heap.size, 6, none⟩ = some (.slice (some ⟨Wd, 0, none⟩) n1 n1) := XN.cell 6 (by simp)
  have z0 : W.cell? ⟨w.heap.size + 1, 0, none⟩ = some (.int .i64 (i : Int)) := XB.cell 0 (by simp)
  have z1 : W.cell? ⟨w.heap.size + 1, 1, none⟩ = some (.int .i64 (j : Int)) := XB.cell 1 (by simp)
  have yiW := bel_cellM hBW hb yi
  have yjW := bel_cellM hBW hb yj
  have wiW := bel_cellM hBW hWl wi
  have wjW := bel_cellM hBW hWl wj
  have hiI : (i : Int) < (n1 : Int) := by omega
  have hjI : (j : Int) < (n1 : Int) := by omega
  clear hx yi yj wi wj hW e1 t1 XN XB
  obtain ⟨R, HRR⟩ : ∃ R, Hid (tnC g i j = R) := ⟨_, (rfl : tnC g i j = _)⟩
  rw [HRR.out]
  by_cases he : Q = P
  · have hE : (Q == P) = true := by simp [he]
    have HR : Hid (R = 20) := by rw [← HRR.out]; exact tnC_back (by rw [← HP.out, ← HQ.out]; exact he)
    clear he
    go_enter Tryd.func71, Tryd.ntmps71
    go_wp2
    rw [← HW.out]
    go_quiet (fail)
    go_wp2
    go_ret
    exact ⟨by rw [HR.out]; rfl, bel_drewN hBW _⟩
  · have hE : (Q == P) = false := by simp [he]
    have HR : Hid (R = wdC A B) := by rw [← HRR.out, HA.out, HB.out]; exact tnC_on (by rw [← HP.out, ← HQ.out]; exact he)
    clear he
    go_enter Tryd.func71, Tryd.ntmps71
    go_wp2
    rw [← HW.out]
    go_quiet (fail)
    go_wp2
    go_quiet (fail)
    by_cases hAn : A < 0
    · have hAb : decide (A < 0) = true := by simp [hAn]
      have HF : Hid (R = _) := HR.out.trans (wdC_no (.inl hAn))
      go_wp2
      go_ret
      exact ⟨by rw [HF.out]; rfl, bel_drewN hBW _⟩
    have hAb : decide (A < 0) = false := by simp; omega
    by_cases hBn : B < 0
    · have hBb : decide (B < 0) = true := by simp [hBn]
      have HF : Hid (R = _) := HR.out.trans (wdC_no (.inr hBn))
      go_wp2
      go_ret
      exact ⟨by rw [HF.out]; rfl, bel_drewN hBW _⟩
    have hBb : decide (B < 0) = false := by simp; omega
    have hn : ¬ (A < 0 ∨ B < 0) := by omega
    have hcs : (B - A + 8) % 8 = 0 ∨ (B - A + 8) % 8 = 1 ∨ (B - A + 8) % 8 = 2 ∨ (B - A + 8) % 8 = 3 ∨ (B - A + 8) % 8 = 4 ∨ (B - A + 8) % 8 = 5 ∨ (B - A + 8) % 8 = 6 ∨ (B - A + 8) % 8 = 7 := by omega
    have htm : ∀ k, (B - A + 8) % 8 = k → Int.tmod (B - A + 8) 8 = k := fun k h => by rw [Int.tmod_eq_emod_of_nonneg (by omega)]; exact h
    rcases hcs with hc | hc | hc | hc | hc | hc | hc | hc
    · have ht := htm _ hc
      have HF : Hid (R = _) := HR.out.trans (wdC_0 hn (.inl hc))
      clear hc htm
      go_wp2
      go_ret
      exact ⟨by rw [HF.out]; rfl, bel_drewN hBW _⟩
    · have ht := htm _ hc
      have HF : Hid (R = _) := HR.out.trans (wdC_0 hn (.inr (.inl hc)))
      clear hc htm
      go_wp2
      go_ret
      exact ⟨by rw [HF.out]; rfl, bel_drewN hBW _⟩
    · have ht := htm _ hc
      have HF : Hid (R = _) := HR.out.trans (wdC_5 hn (.inl hc))
      clear hc htm
      go_wp2
      go_ret
      exact ⟨by rw [HF.out]; rfl, bel_drewN hBW _⟩
    · have ht := htm _ hc
      have HF : Hid (R = _) := HR.out.trans (wdC_5 hn (.inr (.inl hc)))
      clear hc htm
      go_wp2
      go_ret
      exact ⟨by rw [HF.out]; rfl, bel_drewN hBW _⟩
    · have ht := htm _ hc
      have HF : Hid (R = _) := HR.out.trans (wdC_5 hn (.inr (.inr hc)))
      clear hc htm
      go_wp2
      go_ret
      exact ⟨by rw [HF.out]; rfl, bel_drewN hBW _⟩
    · have ht := htm _ hc
      have HF : Hid (R = _) := HR.out.trans (wdC_3 hn (.inl hc))
      clear hc htm
      go_wp2
      go_ret
      exact ⟨by rw [HF.out]; rfl, bel_drewN hBW _⟩
    · have ht := htm _ hc
      have HF : Hid (R = _) := HR.out.trans (wdC_3 hn (.inr hc))
      clear hc htm
      go_wp2
      go_ret
      exact ⟨by rw [HF.out]; rfl, bel_drewN hBW _⟩
    · have ht := htm _ hc
      have HF : Hid (R = _) := HR.out.trans (wdC_0 hn (.inr (.inr hc)))
      clear hc htm
      go_wp2
      go_ret
      exact ⟨by rw [HF.out]; rfl, bel_drewN hBW _⟩
end Go.Proofs.YtponmbjflablcaaDoor

namespace Go.Proofs.YtponmbjflablcaaDoor
open Go.RowKit Go.Maps

/-- What turning costs, -1 where the Roads do not meet or it is forbidden. -/
noncomputable def ttB (g : GraphD) (i j : Nat) : Int := if (rdAt g i).to = (rdAt g j).fr then tnB g i j else -1
theorem ttB_no {g : GraphD} {i j : Nat} (h : ¬ (rdAt g i).to = (rdAt g j).fr) : ttB g i j = -1 := if_neg h
theorem ttB_yes {g : GraphD} {i j : Nat} (h : (rdAt g i).to = (rdAt g j).fr) : ttB g i j = tnB g i j := if_pos h
theorem ttB_bd (g : GraphD) (i j : Nat) : -1 ≤ ttB g i j ∧ ttB g i j ≤ 20 := by
  have := tnB_bd g i j
  unfold ttB
  split <;> omega

set_option maxRecDepth 100000 in
set_option maxHeartbeats 2000000 in
theorem turnTime_any (a0 : Option Addr) (k0 c0 : Nat) (a1 : Option Addr) (n1 c1 : Nat) (a2 : Option Addr) (k2 c2 : Nat) (a3 : Option Addr) (k3 c3 : Nat) (a4 : Option Addr) (k4 c4 : Nat) (M n2 Wd : Nat) (g : GraphD) (b1 : List Nat) (i j : Nat) (w : World) (t1 : RoadL w a1 g.roads b1) (e1 : g.roads.length = n1) (hm : n1 ≤ 8000) (hi : i < n1) (hj : j < n1) (hW : Wnd w Wd n1 n1 g) (hBS : BSet w M n2 (inL g.bans)) :
    Calls Tryd.prog 40 #[.agg #[.slice a0 k0 c0, .slice a1 n1 c1, .slice a2 k2 c2, .slice a3 k3 c3, .slice a4 k4 c4, .map (some M), .slice (some ⟨Wd, 0, none⟩) n1 n1], .agg #[.int .i64 (i : Int), .int .i64 (j : Int)]] w fun e w' => e = .returned (.int .i64 (ttB g i j)) ∧ Bel w w' := by
  have H1 : Hid (g.roads.length = n1) := e1
  have T1 : Hid (RoadL w a1 g.roads b1) := t1
  have HWn : Hid (Wnd w Wd n1 n1 g) := hW
  have hil : i < g.roads.length := by rw [e1]; exact hi
  have hjl : j < g.roads.length := by rw [e1]; exact hj
  obtain ⟨b, off, f, rfl, hb, hx⟩ := t1.out hil
  obtain ⟨_, _, _, _, _, _, _, _, yi, _⟩ := hx i hil
  obtain ⟨_, _, _, _, _, _, _, yj, _⟩ := hx j hjl
  obtain ⟨P, HP⟩ : ∃ P, Hid (P = (rdAt g i).to) := ⟨_, (rfl : (rdAt g i).to = _)⟩
  obtain ⟨Q, HQ⟩ : ∃ Q, Hid (Q = (rdAt g j).fr) := ⟨_, (rfl : (rdAt g j).fr = _)⟩
  rw [show g.roads[i].to = P by rw [HP.out, rdAt_eq hil]] at yi
  rw [show g.roads[j].fr = Q by rw [HQ.out, rdAt_eq hjl]] at yj
  obtain ⟨W, HW⟩ : ∃ W, Hid (W = (w.alloc (.cells #[.slice a0 k0 c0, .slice (some ⟨b, off, none⟩) n1 c1, .slice a2 k2 c2, .slice a3 k3 c3, .slice a4 k4 c4, .map (some M), .slice (some ⟨Wd, 0, none⟩) n1 n1] 67)).alloc (.cells #[.int .i64 (i : Int), .int .i64 (j : Int)] 73)) := ⟨_, (rfl : (w.alloc (.cells #[.slice a0 k0 c0, .slice (some ⟨b, off, none⟩) n1 c1, .slice a2 k2 c2, .slice a3 k3 c3, .slice a4 k4 c4, .map (some M), .slice (some ⟨Wd, 0, none⟩) n1 n1] 67)).alloc (.cells #[.int .i64 (i : Int), .int .i64 (j : Int)] 73) = _)⟩
  have hBW : Bel w W := by rw [HW.out]; exact bel_alloc (bel_alloc (Bel.refl _) _) _
  have XN : Blk W w.heap.size [.slice a0 k0 c0, .slice (some ⟨b, off, none⟩) n1 c1, .slice a2 k2 c2, .slice a3 k3 c3, .slice a4 k4 c4, .map (some M), .slice (some ⟨Wd, 0, none⟩) n1 n1] := by rw [HW.out]; exact (Blk.new w [.slice a0 k0 c0, .slice (some ⟨b, off, none⟩) n1 c1, .slice a2 k2 c2, .slice a3 k3 c3, .slice a4 k4 c4, .map (some M), .slice (some ⟨Wd, 0, none⟩) n1 n1] _).bel (bel_alloc (Bel.refl _) _)
  have XB : Blk W (w.heap.size + 1) [.int .i64 (i : Int), .int .i64 (j : Int)] := by rw [HW.out]; exact Blk.new1 w _ [.int .i64 (i : Int), .int .i64 (j : Int)] _
  have hS : ∀ w', Bel W w' → w'.cell? ⟨w.heap.size, 0, none⟩ = some (.slice a0 k0 c0) ∧ w'.cell? ⟨w.heap.size, 1, none⟩ = some (.slice (some ⟨b, off, none⟩) n1 c1) ∧ w'.cell? ⟨w.heap.size, 2, none⟩ = some (.slice a2 k2 c2) ∧ w'.cell? ⟨w.heap.size, 3, none⟩ = some (.slice a3 k3 c3) ∧ w'.cell? ⟨w.heap.size, 4, none⟩ = some (.slice a4 k4 c4) ∧ w'.cell? ⟨w.heap.size, 5, none⟩ = some (.map (some M)) ∧ w'.cell? ⟨w.heap.size, 6, none⟩ = some (.slice (some ⟨Wd, 0, none⟩) n1 n1) ∧ w'.cell? ⟨w.heap.size + 1, 0, none⟩ = some (.int .i64 (i : Int)) ∧ w'.cell? ⟨w.heap.size + 1, 1, none⟩ = some (.int .i64 (j : Int)) ∧ w'.cell? ⟨b, off + i * 6 + 1, none⟩ = some (.int .i64 P) ∧ w'.cell? ⟨b, off + j * 6, none⟩ = some (.int .i64 Q) := fun w' h =>
    ⟨(XN.bel h).cell 0 (by simp), (XN.bel h).cell 1 (by simp), (XN.bel h).cell 2 (by simp), (XN.bel h).cell 3 (by simp), (XN.bel h).cell 4 (by simp), (XN.bel h).cell 5 (by simp), (XN.bel h).cell 6 (by simp), (XB.bel h).cell 0 (by simp), (XB.bel h).cell 1 (by simp), bel_cellM (bel_step hBW h) hb yi, bel_cellM (bel_step hBW h) hb yj⟩
  have hSB : ∀ w', Bel W w' → BSet w' M n2 (inL g.bans) := fun w' h => hBS.bel (bel_step hBW h)
  have hiI : (i : Int) < (n1 : Int) := by omega
  have hjI : (j : Int) < (n1 : Int) := by omega
  have g0 : Bel W W := Bel.refl _
  obtain ⟨R, HR⟩ : ∃ R, Hid (ttB g i j = R) := ⟨_, (rfl : ttB g i j = _)⟩
  rw [HR.out]
  clear hx yi yj e1 t1 hW XN XB hBS
  by_cases he : P = Q
  · have hE : (P != Q) = false := by simp [he]
    have he' : Hid ((rdAt g i).to = (rdAt g j).fr) := by rw [← HP.out, ← HQ.out]; exact he
    clear he
    go_enter Tryd.func40, Tryd.ntmps40
    go_wp2
    rw [← HW.out]
    go_region_held3 (fun w' => Bel W w') (with_reducible (repeat (first | assumption | exact g0 | refine Bel.drew ?_ | refine bel_then (by assumption) ?_)))
      ((go_at_call 70; refine (bhas_any M n2 _ _ _ _ (hSB _ (by assumption)) ⟨by omega, by omega⟩ ⟨by omega, by omega⟩).mono ?_; rintro e w1 ⟨rfl, hb1⟩))
    have hH : Bel W w1 := by assumption
    rcases Bool.eq_false_or_eq_true (bP (inL g.bans (i : Int) (j : Int))) with hin | hin
    · have HF : Hid (R = -1) := (by rw [← HR.out, ttB_yes he'.out, tnB_ban hin] : R = -1)
      rw [hin]
      go_wp2
      go_ret
      exact ⟨by rw [HF.out]; rfl, bel_step hBW (by assumption)⟩
    · have HF : Hid (R = tnC g i j) := (by rw [← HR.out, ttB_yes he'.out, tnB_ok hin] : R = tnC g i j)
      rw [hin]
      obtain ⟨x0, x1, x2, x3, x4, x5, x6, z0, z1, _, _⟩ := hS _ hH
      have lw : w.heap.size < w1.heap.size := World.block_lt_of_cell? _ _ x0
      have lw1 : w.heap.size + 1 < w1.heap.size := World.block_lt_of_cell? _ _ z0
      go_wp2_with fail
      refine (turning_any _ _ _ _ _ _ _ _ _ _ _ _ _ _ _ _ _ g b1 i j _ (T1.out.bel roadE (bel_step hBW hH)) H1.out hi hj (HWn.out.bel (bel_step hBW hH))).mono ?_
      rintro e w2 ⟨rfl, hb2⟩
      clear hS x0 x1 x2 x3 x4 x5 x6 z0 z1
      go_wp2
      go_ret
      exact ⟨by rw [HF.out]; rfl, bel_step (bel_step hBW hH) hb2⟩
  · have hE : (P != Q) = true := by simp [he]
    have HF : Hid (R = -1) := by rw [← HR.out]; exact ttB_no (by rw [← HP.out, ← HQ.out]; exact he)
    clear he
    go_enter Tryd.func40, Tryd.ntmps40
    go_wp2
    rw [← HW.out]
    refine wp_region_noPanic ?_
    refine wp_region_held_drew (S := fun w' => Bel W w') (by kernel_rfl) (Bel.drew g0) (fun hHeld => ?_)
    refine wpAnyH_take (i := 0) (oi := { dst := some 5, op := Go.Op.fieldAddr 67 (Go.Operand.tmp 2) 0, type := 0, pos := "l10_paths.go:134", after := #[], guard := none }) (v := ?vab0) rfl (by kernel_rfl) (by kernel_rfl) (by kernel_rfl) (fun _ _ _ h => h) (Or.inl ⟨by rfl, ?hab0⟩) hHeld ?rab0
    case hab0 => (intro w hSw; (try dsimp only at hSw); go_simp; try with_reducible rfl)
    try simp only [Act.put, List.setIfInBounds_toArray, List.set_cons_zero, List.set_cons_succ]
    refine wpAnyH_take (i := 1) (oi := { dst := some 6, op := Go.Op.fieldAddr 65 (Go.Operand.tmp 5) 0, type := 0, pos := "l10_paths.go:134", after := #[{ on := 0, ground := Go.Ground.data }], guard := none }) (v := ?vab1) rfl (by kernel_rfl) (by kernel_rfl) (by kernel_rfl) (fun _ _ _ h => h) (Or.inl ⟨by rfl, ?hab1⟩) hHeld ?rab1
    case hab1 => (intro w hSw; (try dsimp only at hSw); go_simp; try with_reducible rfl)
    try simp only [Act.put, List.setIfInBounds_toArray, List.set_cons_zero, List.set_cons_succ]
    refine wpAnyH_take (i := 2) (oi := { dst := some 7, op := Go.Op.fieldAddr 33 (Go.Operand.tmp 6) 1, type := 0, pos := "l10_paths.go:134", after := #[{ on := 1, ground := Go.Ground.data }], guard := none }) (v := ?vab2) rfl (by kernel_rfl) (by kernel_rfl) (by kernel_rfl) (fun _ _ _ h => h) (Or.inl ⟨by rfl, ?hab2⟩) hHeld ?rab2
    case hab2 => (intro w hSw; (try dsimp only at hSw); go_simp; try with_reducible rfl)
    try simp only [Act.put, List.setIfInBounds_toArray, List.set_cons_zero, List.set_cons_succ]
    refine wpAnyH_take (i := 3) (oi := { dst := some 8, op := Go.Op.load 30 (Go.Operand.tmp 7), type := 30, pos := "l10_paths.go:134", after := #[{ on := 2, ground := Go.Ground.data }], guard := none }) (v := ?vab3) rfl (by kernel_rfl) (by kernel_rfl) (by kernel_rfl) (fun _ _ _ h => h) (Or.inl ⟨by rfl, ?hab3⟩) hHeld ?rab3
    case hab3 => (intro w hSw; (try dsimp only at hSw); go_simp; try with_reducible rfl)
    try simp only [Act.put, List.setIfInBounds_toArray, List.set_cons_zero, List.set_cons_succ]
    refine wpAnyH_take (i := 4) (oi := { dst := some 9, op := Go.Op.fieldAddr 73 (Go.Operand.tmp 3) 0, type := 0, pos := "l10_paths.go:134", after := #[], guard := none }) (v := ?vab4) rfl (by kernel_rfl) (by kernel_rfl) (by kernel_rfl) (fun _ _ _ h => h) (Or.inl ⟨by rfl, ?hab4⟩) hHeld ?rab4
    case hab4 => (intro w hSw; (try dsimp only at hSw); go_simp; try with_reducible rfl)
    try simp only [Act.put, List.setIfInBounds_toArray, List.set_cons_zero, List.set_cons_succ]
    refine wpAnyH_take (i := 5) (oi := { dst := some 10, op := Go.Op.load 2 (Go.Operand.tmp 9), type := 2, pos := "l10_paths.go:134", after := #[{ on := 4, ground := Go.Ground.data }], guard := none }) (v := ?vab5) rfl (by kernel_rfl) (by kernel_rfl) (by kernel_rfl) (fun _ _ _ h => h) (Or.inl ⟨by rfl, ?hab5⟩) hHeld ?rab5
    case hab5 => (intro w hSw; (try dsimp only at hSw); go_simp; try with_reducible rfl)
    try simp only [Act.put, List.setIfInBounds_toArray, List.set_cons_zero, List.set_cons_succ]
    refine wpAnyH_take (i := 6) (oi := { dst := some 11, op := Go.Op.indexAddr 30 (Go.Operand.tmp 8) (Go.Operand.tmp 10), type := 0, pos := "l10_paths.go:134", after := #[{ on := 3, ground := Go.Ground.data }, { on := 5, ground := Go.Ground.data }], guard := none }) (v := ?vab6) rfl (by kernel_rfl) (by kernel_rfl) (by kernel_rfl) (fun _ _ _ h => h) (Or.inl ⟨by rfl, ?hab6⟩) hHeld ?rab6
    case hab6 => (intro w hSw; (try dsimp only at hSw); go_simp; try with_reducible rfl)
    try simp only [Act.put, List.setIfInBounds_toArray, List.set_cons_zero, List.set_cons_succ]
    refine wpAnyH_take (i := 7) (oi := { dst := some 12, op := Go.Op.fieldAddr 57 (Go.Operand.tmp 11) 1, type := 0, pos := "l10_paths.go:134", after := #[{ on := 6, ground := Go.Ground.data }], guard := none }) (v := ?vab7) rfl (by kernel_rfl) (by kernel_rfl) (by kernel_rfl) (fun _ _ _ h => h) (Or.inl ⟨by rfl, ?hab7⟩) hHeld ?rab7
    case hab7 => (intro w hSw; (try dsimp only at hSw); go_simp; try with_reducible rfl)
    try simp only [Act.put, List.setIfInBounds_toArray, List.set_cons_zero, List.set_cons_succ]
    refine wpAnyH_take (i := 8) (oi := { dst := some 13, op := Go.Op.load 2 (Go.Operand.tmp 12), type := 2, pos := "l10_paths.go:134", after := #[{ on := 7, ground := Go.Ground.data }], guard := none }) (v := ?vab8) rfl (by kernel_rfl) (by kernel_rfl) (by kernel_rfl) (fun _ _ _ h => h) (Or.inl ⟨by rfl, ?hab8⟩) hHeld ?rab8
    case hab8 => (intro w hSw; (try dsimp only at hSw); go_simp; try with_reducible rfl)
    try simp only [Act.put, List.setIfInBounds_toArray, List.set_cons_zero, List.set_cons_succ]
    refine wpAnyH_take (i := 9) (oi := { dst := some 14, op := Go.Op.fieldAddr 67 (Go.Operand.tmp 2) 0, type := 0, pos := "l10_paths.go:134", after := #[], guard := none }) (v := ?vab9) rfl (by kernel_rfl) (by kernel_rfl) (by kernel_rfl) (fun _ _ _ h => h) (Or.inl ⟨by rfl, ?hab9⟩) hHeld ?rab9
    case hab9 => (intro w hSw; (try dsimp only at hSw); go_simp; try with_reducible rfl)
    try simp only [Act.put, List.setIfInBounds_toArray, List.set_cons_zero, List.set_cons_succ]
    refine wpAnyH_take (i := 10) (oi := { dst := some 15, op := Go.Op.fieldAddr 65 (Go.Operand.tmp 14) 0, type := 0, pos := "l10_paths.go:134", after := #[{ on := 9, ground := Go.Ground.data }], guard := none }) (v := ?vab10) rfl (by kernel_rfl) (by kernel_rfl) (by kernel_rfl) (fun _ _ _ h => h) (Or.inl ⟨by rfl, ?hab10⟩) hHeld ?rab10
    case hab10 => (intro w hSw; (try dsimp only at hSw); go_simp; try with_reducible rfl)
    try simp only [Act.put, List.setIfInBounds_toArray, List.set_cons_zero, List.set_cons_succ]
    refine wpAnyH_take (i := 11) (oi := { dst := some 16, op := Go.Op.fieldAddr 33 (Go.Operand.tmp 15) 1, type := 0, pos := "l10_paths.go:134", after := #[{ on := 10, ground := Go.Ground.data }], guard := none }) (v := ?vab11) rfl (by kernel_rfl) (by kernel_rfl) (by kernel_rfl) (fun _ _ _ h => h) (Or.inl ⟨by rfl, ?hab11⟩) hHeld ?rab11
    case hab11 => (intro w hSw; (try dsimp only at hSw); go_simp; try with_reducible rfl)
    try simp only [Act.put, List.setIfInBounds_toArray, List.set_cons_zero, List.set_cons_succ]
    refine wpAnyH_take (i := 12) (oi := { dst := some 17, op := Go.Op.load 30 (Go.Operand.tmp 16), type := 30, pos := "l10_paths.go:134", after := #[{ on := 11, ground := Go.Ground.data }], guard := none }) (v := ?vab12) rfl (by kernel_rfl) (by kernel_rfl) (by kernel_rfl) (fun _ _ _ h => h) (Or.inl ⟨by rfl, ?hab12⟩) hHeld ?rab12
    case hab12 => (intro w hSw; (try dsimp only at hSw); go_simp; try with_reducible rfl)
    try simp only [Act.put, List.setIfInBounds_toArray, List.set_cons_zero, List.set_cons_succ]
    refine wpAnyH_take (i := 13) (oi := { dst := some 18, op := Go.Op.fieldAddr 73 (Go.Operand.tmp 3) 1, type := 0, pos := "l10_paths.go:134", after := #[], guard := none }) (v := ?vab13) rfl (by kernel_rfl) (by kernel_rfl) (by kernel_rfl) (fun _ _ _ h => h) (Or.inl ⟨by rfl, ?hab13⟩) hHeld ?rab13
    case hab13 => (intro w hSw; (try dsimp only at hSw); go_simp; try with_reducible rfl)
    try simp only [Act.put, List.setIfInBounds_toArray, List.set_cons_zero, List.set_cons_succ]
    refine wpAnyH_take (i := 14) (oi := { dst := some 19, op := Go.Op.load 2 (Go.Operand.tmp 18), type := 2, pos := "l10_paths.go:134", after := #[{ on := 13, ground := Go.Ground.data }], guard := none }) (v := ?vab14) rfl (by kernel_rfl) (by kernel_rfl) (by kernel_rfl) (fun _ _ _ h => h) (Or.inl ⟨by rfl, ?hab14⟩) hHeld ?rab14
    case hab14 => (intro w hSw; (try dsimp only at hSw); go_simp; try with_reducible rfl)
    try simp only [Act.put, List.setIfInBounds_toArray, List.set_cons_zero, List.set_cons_succ]
    refine wpAnyH_take (i := 15) (oi := { dst := some 20, op := Go.Op.indexAddr 30 (Go.Operand.tmp 17) (Go.Operand.tmp 19), type := 0, pos := "l10_paths.go:134", after := #[{ on := 12, ground := Go.Ground.data }, { on := 14, ground := Go.Ground.data }], guard := none }) (v := ?vab15) rfl (by kernel_rfl) (by kernel_rfl) (by kernel_rfl) (fun _ _ _ h => h) (Or.inl ⟨by rfl, ?hab15⟩) hHeld ?rab15
    case hab15 => (intro w hSw; (try dsimp only at hSw); go_simp; try with_reducible rfl)
    try simp only [Act.put, List.setIfInBounds_toArray, List.set_cons_zero, List.set_cons_succ]
    refine wpAnyH_take (i := 16) (oi := { dst := some 21, op := Go.Op.fieldAddr 57 (Go.Operand.tmp 20) 0, type := 0, pos := "l10_paths.go:134", after := #[{ on := 15, ground := Go.Ground.data }], guard := none }) (v := ?vab16) rfl (by kernel_rfl) (by kernel_rfl) (by kernel_rfl) (fun _ _ _ h => h) (Or.inl ⟨by rfl, ?hab16⟩) hHeld ?rab16
    case hab16 => (intro w hSw; (try dsimp only at hSw); go_simp; try with_reducible rfl)
    try simp only [Act.put, List.setIfInBounds_toArray, List.set_cons_zero, List.set_cons_succ]
    refine wpAnyH_take (i := 17) (oi := { dst := some 22, op := Go.Op.load 2 (Go.Operand.tmp 21), type := 2, pos := "l10_paths.go:134", after := #[{ on := 16, ground := Go.Ground.data }], guard := none }) (v := ?vab17) rfl (by kernel_rfl) (by kernel_rfl) (by kernel_rfl) (fun _ _ _ h => h) (Or.inl ⟨by rfl, ?hab17⟩) hHeld ?rab17
    case hab17 => (intro w hSw; (try dsimp only at hSw); go_simp; try with_reducible rfl)
    try simp only [Act.put, List.setIfInBounds_toArray, List.set_cons_zero, List.set_cons_succ]
    refine wpAnyH_take (i := 18) (oi := { dst := some 23, op := Go.Op.binOp Go.BinOp.neq 2 (Go.Operand.tmp 13) (Go.Operand.tmp 22) 2, type := 4, pos := "l10_paths.go:134", after := #[{ on := 8, ground := Go.Ground.data }, { on := 17, ground := Go.Ground.data }], guard := none }) (v := ?vab18) rfl (by kernel_rfl) (by kernel_rfl) (by kernel_rfl) (fun _ _ _ h => h) (Or.inl ⟨by rfl, ?hab18⟩) hHeld ?rab18
    case hab18 => (intro w hSw; (try dsimp only at hSw); go_simp; try with_reducible rfl)
    try simp only [Act.put, List.setIfInBounds_toArray, List.set_cons_zero, List.set_cons_succ]
    refine wpAnyH_take (i := 19) (oi := { dst := some 24, op := Go.Op.move (Go.Operand.tmp 23), type := 4, pos := "l10_paths.go:134", after := #[{ on := 18, ground := Go.Ground.data }], guard := none }) (v := ?vab19) rfl (by kernel_rfl) (by kernel_rfl) (by kernel_rfl) (fun _ _ _ h => h) (Or.inl ⟨by rfl, ?hab19⟩) hHeld ?rab19
    case hab19 => (intro w hSw; (try dsimp only at hSw); go_simp; try with_reducible rfl)
    try simp only [Act.put, List.setIfInBounds_toArray, List.set_cons_zero, List.set_cons_succ]
    refine wpAnyH_take (i := 20) (oi := { dst := some 25, op := Go.Op.fieldAddr 67 (Go.Operand.tmp 2) 0, type := 0, pos := "l10_paths.go:134", after := #[{ on := 19, ground := Go.Ground.guard }], guard := some (19, false) }) (v := undef) rfl (by kernel_rfl) (by kernel_rfl) (by kernel_rfl) (fun _ _ _ h => h) (Or.inr ⟨by rfl, rfl⟩) hHeld ?_
    try simp only [Act.put, List.setIfInBounds_toArray, List.set_cons_zero, List.set_cons_succ]
    refine wpAnyH_take (i := 21) (oi := { dst := some 26, op := Go.Op.fieldAddr 65 (Go.Operand.tmp 25) 3, type := 0, pos := "l10_paths.go:134", after := #[{ on := 20, ground := Go.Ground.data }, { on := 19, ground := Go.Ground.guard }], guard := some (19, false) }) (v := undef) rfl (by kernel_rfl) (by kernel_rfl) (by kernel_rfl) (fun _ _ _ h => h) (Or.inr ⟨by rfl, rfl⟩) hHeld ?_
    try simp only [Act.put, List.setIfInBounds_toArray, List.set_cons_zero, List.set_cons_succ]
    refine wpAnyH_take (i := 22) (oi := { dst := some 27, op := Go.Op.load 63 (Go.Operand.tmp 26), type := 63, pos := "l10_paths.go:134", after := #[{ on := 21, ground := Go.Ground.data }, { on := 19, ground := Go.Ground.guard }], guard := some (19, false) }) (v := undef) rfl (by kernel_rfl) (by kernel_rfl) (by kernel_rfl) (fun _ _ _ h => h) (Or.inr ⟨by rfl, rfl⟩) hHeld ?_
    try simp only [Act.put, List.setIfInBounds_toArray, List.set_cons_zero, List.set_cons_succ]
    refine wpAnyH_take (i := 23) (oi := { dst := some 28, op := Go.Op.load 73 (Go.Operand.tmp 3), type := 73, pos := "l10_paths.go:134", after := #[{ on := 19, ground := Go.Ground.guard }], guard := some (19, false) }) (v := undef) rfl (by kernel_rfl) (by kernel_rfl) (by kernel_rfl) (fun _ _ _ h => h) (Or.inr ⟨by rfl, rfl⟩) hHeld ?_
    try simp only [Act.put, List.setIfInBounds_toArray, List.set_cons_zero, List.set_cons_succ]
    refine wpAnyH_take (i := 24) (oi := { dst := some 29, op := Go.Op.call { callee := Go.Callee.value (Go.Operand.func 70), args := #[Go.Operand.tmp 27, Go.Operand.tmp 28], argTypes := #[63, 73] }, type := 4, pos := "l10_paths.go:134", after := #[{ on := 22, ground := Go.Ground.data }, { on := 23, ground := Go.Ground.data }, { on := 19, ground := Go.Ground.chain }, { on := 19, ground := Go.Ground.guard }], guard := some (19, false) }) (v := undef) rfl (by kernel_rfl) (by kernel_rfl) (by kernel_rfl) (fun _ _ _ h => h) (Or.inr ⟨by rfl, rfl⟩) hHeld ?_
    try simp only [Act.put, List.setIfInBounds_toArray, List.set_cons_zero, List.set_cons_succ]
    refine wpAnyH_take (i := 25) (oi := { dst := some 30, op := Go.Op.pick (Go.Operand.tmp 24) (Go.Operand.const (Go.Value.bool true)) (Go.Operand.tmp 29), type := 4, pos := "l10_paths.go:134", after := #[{ on := 19, ground := Go.Ground.data }, { on := 24, ground := Go.Ground.data }], guard := none }) (v := ?vab25) rfl (by kernel_rfl) (by kernel_rfl) (by kernel_rfl) (fun _ _ _ h => h) (Or.inl ⟨by rfl, ?hab25⟩) hHeld ?rab25
    case hab25 => (intro w hSw; (try dsimp only at hSw); go_simp; try with_reducible rfl)
    try simp only [Act.put, List.setIfInBounds_toArray, List.set_cons_zero, List.set_cons_succ]
    refine wpAnyH_done (by kernel_rfl) ?_ _
    refine NoPanic.normal ?_
    go_wp2
    go_ret
    exact ⟨by rw [HF.out]; rfl, bel_step hBW hHeld⟩
end Go.Proofs.YtponmbjflablcaaDoor
