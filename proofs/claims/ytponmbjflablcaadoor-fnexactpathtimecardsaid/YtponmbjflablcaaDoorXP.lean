/-
  What a turn costs, in the program: contracts.
  What a turn costs, in the program, where it may be none: contract.
  A graph's network with the winds of its Roads, in the program: contract.
  TurnTime in the program: contract.
  PathTime in the program: contract.
-/
import Derived.Test.YtponmbjflablcaaDoorTtM
import Derived.Test.YtponmbjflablcaaDoorTabG
import Derived.Test.YtponmbjflablcaaDoorHeadA
import Derived.Deep.QuietTactic
import Derived.Deep.RegionHeld3
import Derived.Test.YtponmbjflablcaaDoorNetI
import Derived.Test.YtponmbjflablcaaDoorPaM
namespace Go.Proofs.YtponmbjflablcaaDoor
open Go.RowKit Go.Maps

/-- A row in which the winds of the first k Roads stand. -/
structure Wnd (w : World) (B n k : Nat) (g : GraphD) : Prop where
  lt : B < w.heap.size
  done : ∀ i, i < k → w.cell? ⟨B, i, none⟩ = some (.int .i64 (hdR g i))
  there : ∀ i, i < n → ∃ u, w.cell? ⟨B, i, none⟩ = some u
  free : ∀ i, w.frozen? ⟨B, i, none⟩ = false
theorem Wnd.bel {w w' : World} {B n k : Nat} {g : GraphD} (h : Wnd w B n k g) (hb : Bel w w') : Wnd w' B n k g :=
  ⟨bel_lt hb h.lt, fun i hi => bel_cellM hb h.lt (h.done i hi), fun i hi => by obtain ⟨u, hu⟩ := h.there i hi; exact ⟨u, bel_cellM hb h.lt hu⟩, fun i => by rw [hb.out.frozen (p := ⟨B, i, none⟩) h.lt]; exact h.free i⟩
theorem Wnd.frx {X : Nat → Prop} {w w' : World} {B n k : Nat} {g : GraphD} (h : Wnd w B n k g) (hb : Frx X w w') (hx : X B) : Wnd w' B n k g := by
  have e := hb.block B h.lt hx
  exact ⟨Nat.lt_of_lt_of_le h.lt hb.size, fun i hi => by rw [World.cell?_of_block e]; exact h.done i hi, fun i hi => by rw [World.cell?_of_block e]; exact h.there i hi, fun i => by rw [World.frozen?_of_block e]; exact h.free i⟩
theorem Wnd.put {w : World} {B n k : Nat} {g : GraphD} (h : Wnd w B n k g) (hk : k < n) : Wnd (w.setCell ⟨B, k, none⟩ (.int .i64 (hdR g k))) B n (k + 1) g := by
  refine ⟨by simpa [World.setCell] using h.lt, fun i hi => ?_, fun i hi => ?_, fun i => by rw [World.frozen?_setCell]; exact h.free i⟩
  · by_cases e : i = k
    · subst e
      obtain ⟨u, hu⟩ := h.there i hk
      exact World.cell?_setCell_same _ _ _ hu
    · rw [World.cell?_setCell_other _ _ _ _ (fun e2 => e (by have := congrArg Addr.off e2; simpa using this.symm))]
      exact h.done i (by omega)
  · by_cases e : i = k
    · subst e
      obtain ⟨u, hu⟩ := h.there i hk
      exact ⟨_, World.cell?_setCell_same _ _ _ hu⟩
    · rw [World.cell?_setCell_other _ _ _ _ (fun e2 => e (by have := congrArg Addr.off e2; simpa using this.symm))]
      exact h.there i hi
theorem Wnd.new (w : World) (n : Nat) (t : TypeId) (g : GraphD) : Wnd (w.alloc (.cells (madeCells #[.int .i64 0] n) t)) w.heap.size n 0 g := by
  have h := heap_alloc_new w (.cells (madeCells #[.int .i64 0] n) t)
  refine ⟨by simp, fun i hi => by omega, fun i hi => ⟨.int .i64 0, ?_⟩, fun i => by simp only [World.frozen?, h]; rfl⟩
  simp only [World.cell?, h]
  rw [← Array.getElem?_toList, toList_madeCells_one]
  simp [hi]

set_option maxRecDepth 100000 in
set_option maxHeartbeats 2000000 in
theorem turning_any (a0 : Option Addr) (k0 c0 : Nat) (a1 : Option Addr) (n1 c1 : Nat) (a2 : Option Addr) (k2 c2 : Nat) (a3 : Option Addr) (k3 c3 : Nat) (a4 : Option Addr) (k4 c4 : Nat) (m5 : Option Nat) (Wd : Nat) (g : GraphD) (b1 : List Nat) (i j : Nat) (w : World) (t1 : RoadL w a1 g.roads b1) (e1 : g.roads.length = n1) (hi : i < n1) (hj : j < n1) (hW : Wnd w Wd n1 n1 g) :
    Calls Tryd.prog 71 #[.agg #[.slice a0 k0 c0, .slice a1 n1 c1, .slice a2 k2 c2, .slice a3 k3 c3, .slice a4 k4 c4, .map m5, .slice (some ⟨Wd, 0, none⟩) n1 n1], .agg #[.int .i64 (i : Int), .int .i64 (j : Int)]] w fun e w' => e = .returned (.int .i64 (tnC g i j)) ∧ Bel w w' := by
  have H1 : Hid (g.roads.length = n1) := e1
  have hil : i < g.roads.length := by rw [e1]; exact hi
  have hjl : j < g.roads.length := by rw [e1]; exact hj
  obtain ⟨b, off, f, rfl, hb, hx⟩ := t1.out hil
  obtain ⟨_, _, _, _, _, _, _, yi, _⟩ := hx i hil
  obtain ⟨_, _, _, _, _, _, _, _, yj, _⟩ := hx j hjl
  obtain ⟨P, HP⟩ : ∃ P, Hid (P = (rdAt g i).fr) := ⟨_, (rfl : (rdAt g i).fr = _)⟩
  obtain ⟨Q, HQ⟩ : ∃ Q, Hid (Q = (rdAt g j).to) := ⟨_, (rfl : (rdAt g j).to = _)⟩
  obtain ⟨A, HA⟩ : ∃ A, Hid (A = hdR g i) := ⟨_, (rfl : hdR g i = _)⟩
  obtain ⟨B, HB⟩ : ∃ B, Hid (B = hdR g j) := ⟨_, (rfl : hdR g j = _)⟩
  rw [show g.roads[i].fr = P by rw [HP.out, rdAt_eq hil]] at yi
  rw [show g.roads[j].to = Q by rw [HQ.out, rdAt_eq hjl]] at yj
  have wi := hW.done i hi
  have wj := hW.done j hj
  rw [← HA.out] at wi
  rw [← HB.out] at wj
  have hA := hdR_bd g i
  have hBd := hdR_bd g j
  rw [← HA.out] at hA
  rw [← HB.out] at hBd
  obtain ⟨hA0, hA1⟩ := hA
  obtain ⟨hB0, hB1⟩ := hBd
  have hWl := hW.lt
  obtain ⟨W, HW⟩ : ∃ W, Hid (W = (w.alloc (.cells #[.slice a0 k0 c0, .slice (some ⟨b, off, none⟩) n1 c1, .slice a2 k2 c2, .slice a3 k3 c3, .slice a4 k4 c4, .map m5, .slice (some ⟨Wd, 0, none⟩) n1 n1] 67)).alloc (.cells #[.int .i64 (i : Int), .int .i64 (j : Int)] 73)) := ⟨_, (rfl : (w.alloc (.cells #[.slice a0 k0 c0, .slice (some ⟨b, off, none⟩) n1 c1, .slice a2 k2 c2, .slice a3 k3 c3, .slice a4 k4 c4, .map m5, .slice (some ⟨Wd, 0, none⟩) n1 n1] 67)).alloc (.cells #[.int .i64 (i : Int), .int .i64 (j : Int)] 73) = _)⟩
  have hBW : Bel w W := by rw [HW.out]; exact bel_alloc (bel_alloc (Bel.refl _) _) _
  have XN : Blk W w.heap.size [.slice a0 k0 c0, .slice (some ⟨b, off, none⟩) n1 c1, .slice a2 k2 c2, .slice a3 k3 c3, .slice a4 k4 c4, .map m5, .slice (some ⟨Wd, 0, none⟩) n1 n1] := by rw [HW.out]; exact (Blk.new w [.slice a0 k0 c0, .slice (some ⟨b, off, none⟩) n1 c1, .slice a2 k2 c2, .slice a3 k3 c3, .slice a4 k4 c4, .map m5, .slice (some ⟨Wd, 0, none⟩) n1 n1] _).bel (bel_alloc (Bel.refl _) _)
  have XB : Blk W (w.heap.size + 1) [.int .i64 (i : Int), .int .i64 (j : Int)] := by rw [HW.out]; exact Blk.new1 w _ [.int .i64 (i : Int), .int .i64 (j : Int)] _
  have x1 : W.cell? ⟨w.heap.size, 1, none⟩ = some (.slice (some ⟨b, off, none⟩) n1 c1) := XN.cell 1 (by simp)
  have x6 : W.cell? ⟨w.heap.size, 6, none⟩ = some (.slice (some ⟨Wd, 0, none⟩) n1 n1) := XN.cell 6 (by simp)
  have z0 : W.cell? ⟨w.heap.size + 1, 0, none⟩ = some (.int .i64 (i : Int)) := XB.cell 0 (by simp)
  have z1 : W.cell? ⟨w.heap.size + 1, 1, none⟩ = some (.int .i64 (j : Int)) := XB.cell 1 (by simp)
  have yiW := bel_cellM hBW hb yi
  have yjW := bel_cellM hBW hb yj
  have wiW := bel_cellM hBW hWl wi
  have wjW := bel_cellM hBW hWl wj
  have hiI : (i : Int) < (n1 : Int) := by omega
  have hjI : (j : Int) < (n1 : Int) := by omega
  clear hx yi yj wi wj hW e1 t1 XN XB
  obtain ⟨R, HRR⟩ : ∃ R, Hid (tnC g i j = R) := ⟨_, (rfl : tnC g i j = _)⟩
  rw [HRR.out]
  by_cases he : Q = P
  · have hE : (Q == P) = true := by simp [he]
    have HR : Hid (R = 20) := by rw [← HRR.out]; exact tnC_back (by rw [← HP.out, ← HQ.out]; exact he)
    clear he
    go_enter Tryd.func71, Tryd.ntmps71
    go_wp2
    rw [← HW.out]
    go_quiet (fail)
    go_wp2
    go_ret
    exact ⟨by rw [HR.out]; rfl, bel_drewN hBW _⟩
  · have hE : (Q == P) = false := by simp [he]
    have HR : Hid (R = wdC A B) := by rw [← HRR.out, HA.out, HB.out]; exact tnC_on (by rw [← HP.out, ← HQ.out]; exact he)
    clear he
    go_enter Tryd.func71, Tryd.ntmps71
    go_wp2
    rw [← HW.out]
    go_quiet (fail)
    go_wp2
    go_quiet (fail)
    by_cases hAn : A < 0
    · have hAb : decide (A < 0) = true := by simp [hAn]
      have HF : Hid (R = _) := HR.out.trans (wdC_no (.inl hAn))
      go_wp2
      go_ret
      exact ⟨by rw [HF.out]; rfl, bel_drewN hBW _⟩
    have hAb : decide (A < 0) = false := by simp; omega
    by_cases hBn : B < 0
    · have hBb : decide (B < 0) = true := by simp [hBn]
      have HF : Hid (R = _) := HR.out.trans (wdC_no (.inr hBn))
      go_wp2
      go_ret
      exact ⟨by rw [HF.out]; rfl, bel_drewN hBW _⟩
    have hBb : decide (B < 0) = false := by simp; omega
    have hn : ¬ (A < 0 ∨ B < 0) := by omega
    have hcs : (B - A + 8) % 8 = 0 ∨ (B - A + 8) % 8 = 1 ∨ (B - A + 8) % 8 = 2 ∨ (B - A + 8) % 8 = 3 ∨ (B - A + 8) % 8 = 4 ∨ (B - A + 8) % 8 = 5 ∨ (B - A + 8) % 8 = 6 ∨ (B - A + 8) % 8 = 7 := by omega
    have htm : ∀ k, (B - A + 8) % 8 = k → Int.tmod (B - A + 8) 8 = k := fun k h => by rw [Int.tmod_eq_emod_of_nonneg (by omega)]; exact h
    rcases hcs with hc | hc | hc | hc | hc | hc | hc | hc
    · have ht := htm _ hc
      have HF : Hid (R = _) := HR.out.trans (wdC_0 hn (.inl hc))
      clear hc htm
      go_wp2
      go_ret
      exact ⟨by rw [HF.out]; rfl, bel_drewN hBW _⟩
    · have ht := htm _ hc
      have HF : Hid (R = _) := HR.out.trans (wdC_0 hn (.inr (.inl hc)))
      clear hc htm
      go_wp2
      go_ret
      exact ⟨by rw [HF.out]; rfl, bel_drewN hBW _⟩
    · have ht := htm _ hc
      have HF : Hid (R = _) := HR.out.trans (wdC_5 hn (.inl hc))
      clear hc htm
      go_wp2
      go_ret
      exact ⟨by rw [HF.out]; rfl, bel_drewN hBW _⟩
    · have ht := htm _ hc
      have HF : Hid (R = _) := HR.out.trans (wdC_5 hn (.inr (.inl hc)))
      clear hc htm
      go_wp2
      go_ret
      exact ⟨by rw [HF.out]; rfl, bel_drewN hBW _⟩
    · have ht := htm _ hc
      have HF : Hid (R = _) := HR.out.trans (wdC_5 hn (.inr (.inr hc)))
      clear hc htm
      go_wp2
      go_ret
      exact ⟨by rw [HF.out]; rfl, bel_drewN hBW _⟩
    · have ht := htm _ hc
      have HF : Hid (R = _) := HR.out.trans (wdC_3 hn (.inl hc))
      clear hc htm
      go_wp2
      go_ret
      exact ⟨by rw [HF.out]; rfl, bel_drewN hBW _⟩
    · have ht := htm _ hc
      have HF : Hid (R = _) := HR.out.trans (wdC_3 hn (.inr hc))
      clear hc htm
      go_wp2
      go_ret
      exact ⟨by rw [HF.out]; rfl, bel_drewN hBW _⟩
    · have ht := htm _ hc
      have HF : Hid (R = _) := HR.out.trans (wdC_0 hn (.inr (.inr hc)))
      clear hc htm
      go_wp2
      go_ret
      exact ⟨by rw [HF.out]; rfl, bel_drewN hBW _⟩
end Go.Proofs.YtponmbjflablcaaDoor

namespace Go.Proofs.YtponmbjflablcaaDoor
open Go.RowKit Go.Maps

/-- What turning costs, -1 where the Roads do not meet or it is forbidden. -/
noncomputable def ttB (g : GraphD) (i j : Nat) : Int := if (rdAt g i).to = (rdAt g j).fr then tnB g i j else -1
theorem ttB_no {g : GraphD} {i j : Nat} (h : ¬ (rdAt g i).to = (rdAt g j).fr) : ttB g i j = -1 := if_neg h
theorem ttB_yes {g : GraphD} {i j : Nat} (h : (rdAt g i).to = (rdAt g j).fr) : ttB g i j = tnB g i j := if_pos h
theorem ttB_bd (g : GraphD) (i j : Nat) : -1 ≤ ttB g i j ∧ ttB g i j ≤ 20 := by
  have := tnB_bd g i j
  unfold ttB
  split <;> omega

set_option maxRecDepth 100000 in
set_option maxHeartbeats 2000000 in
theorem turnTime_any (a0 : Option Addr) (k0 c0 : Nat) (a1 : Option Addr) (n1 c1 : Nat) (a2 : Option Addr) (k2 c2 : Nat) (a3 : Option Addr) (k3 c3 : Nat) (a4 : Option Addr) (k4 c4 : Nat) (M n2 Wd : Nat) (g : GraphD) (b1 : List Nat) (i j : Nat) (w : World) (t1 : RoadL w a1 g.roads b1) (e1 : g.roads.length = n1) (hm : n1 ≤ 8000) (hi : i < n1) (hj : j < n1) (hW : Wnd w Wd n1 n1 g) (hBS : BSet w M n2 (inL g.bans)) :
    Calls Tryd.prog 40 #[.agg #[.slice a0 k0 c0, .slice a1 n1 c1, .slice a2 k2 c2, .slice a3 k3 c3, .slice a4 k4 c4, .map (some M), .slice (some ⟨Wd, 0, none⟩) n1 n1], .agg #[.int .i64 (i : Int), .int .i64 (j : Int)]] w fun e w' => e = .returned (.int .i64 (ttB g i j)) ∧ Bel w w' := by
  have H1 : Hid (g.roads.length = n1) := e1
  have T1 : Hid (RoadL w a1 g.roads b1) := t1
  have HWn : Hid (Wnd w Wd n1 n1 g) := hW
  have hil : i < g.roads.length := by rw [e1]; exact hi
  have hjl : j < g.roads.length := by rw [e1]; exact hj
  obtain ⟨b, off, f, rfl, hb, hx⟩ := t1.out hil
  obtain ⟨_, _, _, _, _, _, _, _, yi, _⟩ := hx i hil
  obtain ⟨_, _, _, _, _, _, _, yj, _⟩ := hx j hjl
  obtain ⟨P, HP⟩ : ∃ P, Hid (P = (rdAt g i).to) := ⟨_, (rfl : (rdAt g i).to = _)⟩
  obtain ⟨Q, HQ⟩ : ∃ Q, Hid (Q = (rdAt g j).fr) := ⟨_, (rfl : (rdAt g j).fr = _)⟩
  rw [show g.roads[i].to = P by rw [HP.out, rdAt_eq hil]] at yi
  rw [show g.roads[j].fr = Q by rw [HQ.out, rdAt_eq hjl]] at yj
  obtain ⟨W, HW⟩ : ∃ W, Hid (W = (w.alloc (.cells #[.slice a0 k0 c0, .slice (some ⟨b, off, none⟩) n1 c1, .slice a2 k2 c2, .slice a3 k3 c3, .slice a4 k4 c4, .map (some M), .slice (some ⟨Wd, 0, none⟩) n1 n1] 67)).alloc (.cells #[.int .i64 (i : Int), .int .i64 (j : Int)] 73)) := ⟨_, (rfl : (w.alloc (.cells #[.slice a0 k0 c0, .slice (some ⟨b, off, none⟩) n1 c1, .slice a2 k2 c2, .slice a3 k3 c3, .slice a4 k4 c4, .map (some M), .slice (some ⟨Wd, 0, none⟩) n1 n1] 67)).alloc (.cells #[.int .i64 (i : Int), .int .i64 (j : Int)] 73) = _)⟩
  have hBW : Bel w W := by rw [HW.out]; exact bel_alloc (bel_alloc (Bel.refl _) _) _
  have XN : Blk W w.heap.size [.slice a0 k0 c0, .slice (some ⟨b, off, none⟩) n1 c1, .slice a2 k2 c2, .slice a3 k3 c3, .slice a4 k4 c4, .map (some M), .slice (some ⟨Wd, 0, none⟩) n1 n1] := by rw [HW.out]; exact (Blk.new w [.slice a0 k0 c0, .slice (some ⟨b, off, none⟩) n1 c1, .slice a2 k2 c2, .slice a3 k3 c3, .slice a4 k4 c4, .map (some M), .slice (some ⟨Wd, 0, none⟩) n1 n1] _).bel (bel_alloc (Bel.refl _) _)
  have XB : Blk W (w.heap.size + 1) [.int .i64 (i : Int), .int .i64 (j : Int)] := by rw [HW.out]; exact Blk.new1 w _ [.int .i64 (i : Int), .int .i64 (j : Int)] _
  have hS : ∀ w', Bel W w' → w'.cell? ⟨w.heap.size, 0, none⟩ = some (.slice a0 k0 c0) ∧ w'.cell? ⟨w.heap.size, 1, none⟩ = some (.slice (some ⟨b, off, none⟩) n1 c1) ∧ w'.cell? ⟨w.heap.size, 2, none⟩ = some (.slice a2 k2 c2) ∧ w'.cell? ⟨w.heap.size, 3, none⟩ = some (.slice a3 k3 c3) ∧ w'.cell? ⟨w.heap.size, 4, none⟩ = some (.slice a4 k4 c4) ∧ w'.cell? ⟨w.heap.size, 5, none⟩ = some (.map (some M)) ∧ w'.cell? ⟨w.heap.size, 6, none⟩ = some (.slice (some ⟨Wd, 0, none⟩) n1 n1) ∧ w'.cell? ⟨w.heap.size + 1, 0, none⟩ = some (.int .i64 (i : Int)) ∧ w'.cell? ⟨w.heap.size + 1, 1, none⟩ = some (.int .i64 (j : Int)) ∧ w'.cell? ⟨b, off + i * 6 + 1, none⟩ = some (.int .i64 P) ∧ w'.cell? ⟨b, off + j * 6, none⟩ = some (.int .i64 Q) := fun w' h =>
    ⟨(XN.bel h).cell 0 (by simp), (XN.bel h).cell 1 (by simp), (XN.bel h).cell 2 (by simp), (XN.bel h).cell 3 (by simp), (XN.bel h).cell 4 (by simp), (XN.bel h).cell 5 (by simp), (XN.bel h).cell 6 (by simp), (XB.bel h).cell 0 (by simp), (XB.bel h).cell 1 (by simp), bel_cellM (bel_step hBW h) hb yi, bel_cellM (bel_step hBW h) hb yj⟩
  have hSB : ∀ w', Bel W w' → BSet w' M n2 (inL g.bans) := fun w' h => hBS.bel (bel_step hBW h)
  have hiI : (i : Int) < (n1 : Int) := by omega
  have hjI : (j : Int) < (n1 : Int) := by omega
  have g0 : Bel W W := Bel.refl _
  obtain ⟨R, HR⟩ : ∃ R, Hid (ttB g i j = R) := ⟨_, (rfl : ttB g i j = _)⟩
  rw [HR.out]
  clear hx yi yj e1 t1 hW XN XB hBS
  by_cases he : P = Q
  · have hE : (P != Q) = false := by simp [he]
    have he' : Hid ((rdAt g i).to = (rdAt g j).fr) := by rw [← HP.out, ← HQ.out]; exact he
    clear he
    go_enter Tryd.func40, Tryd.ntmps40
    go_wp2
    rw [← HW.out]
    go_region_held3 (fun w' => Bel W w') (with_reducible (repeat (first | assumption | exact g0 | refine Bel.drew ?_ | refine bel_then (by assumption) ?_)))
      ((go_at_call 70; refine (bhas_any M n2 _ _ _ _ (hSB _ (by assumption)) ⟨by omega, by omega⟩ ⟨by omega, by omega⟩).mono ?_; rintro e w1 ⟨rfl, hb1⟩))
    have hH : Bel W w1 := by assumption
    rcases Bool.eq_false_or_eq_true (bP (inL g.bans (i : Int) (j : Int))) with hin | hin
    · have HF : Hid (R = -1) := (by rw [← HR.out, ttB_yes he'.out, tnB_ban hin] : R = -1)
      rw [hin]
      go_wp2
      go_ret
      exact ⟨by rw [HF.out]; rfl, bel_step hBW (by assumption)⟩
    · have HF : Hid (R = tnC g i j) := (by rw [← HR.out, ttB_yes he'.out, tnB_ok hin] : R = tnC g i j)
      rw [hin]
      obtain ⟨x0, x1, x2, x3, x4, x5, x6, z0, z1, _, _⟩ := hS _ hH
      have lw : w.heap.size < w1.heap.size := World.block_lt_of_cell? _ _ x0
      have lw1 : w.heap.size + 1 < w1.heap.size := World.block_lt_of_cell? _ _ z0
      go_wp2_with fail
      refine (turning_any _ _ _ _ _ _ _ _ _ _ _ _ _ _ _ _ _ g b1 i j _ (T1.out.bel roadE (bel_step hBW hH)) H1.out hi hj (HWn.out.bel (bel_step hBW hH))).mono ?_
      rintro e w2 ⟨rfl, hb2⟩
      clear hS x0 x1 x2 x3 x4 x5 x6 z0 z1
      go_wp2
      go_ret
      exact ⟨by rw [HF.out]; rfl, bel_step (bel_step hBW hH) hb2⟩
  · have hE : (P != Q) = true := by simp [he]
    have HF : Hid (R = -1) := by rw [← HR.out]; exact ttB_no (by rw [← HP.out, ← HQ.out]; exact he)
    clear he
    go_enter Tryd.func40, Tryd.ntmps40
    go_wp2
    rw [← HW.out]
    refine wp_region_noPanic ?_
    refine wp_region_held_drew (S := fun w' => Bel W w') (by kernel_rfl) (Bel.drew g0) (fun hHeld => ?_)
    refine wpAnyH_take (i := 0) (oi := { dst := some 5, op := Go.Op.fieldAddr 67 (Go.Operand.tmp 2) 0, type := 0, pos := "l10_paths.go:134", after := #[], guard := none }) (v := ?vab0) rfl (by kernel_rfl) (by kernel_rfl) (by kernel_rfl) (fun _ _ _ h => h) (Or.inl ⟨by rfl, ?hab0⟩) hHeld ?rab0
    case hab0 => (intro w hSw; (try dsimp only at hSw); go_simp; try with_reducible rfl)
    try simp only [Act.put, List.setIfInBounds_toArray, List.set_cons_zero, List.set_cons_succ]
    refine wpAnyH_take (i := 1) (oi := { dst := some 6, op := Go.Op.fieldAddr 65 (Go.Operand.tmp 5) 0, type := 0, pos := "l10_paths.go:134", after := #[{ on := 0, ground := Go.Ground.data }], guard := none }) (v := ?vab1) rfl (by kernel_rfl) (by kernel_rfl) (by kernel_rfl) (fun _ _ _ h => h) (Or.inl ⟨by rfl, ?hab1⟩) hHeld ?rab1
    case hab1 => (intro w hSw; (try dsimp only at hSw); go_simp; try with_reducible rfl)
    try simp only [Act.put, List.setIfInBounds_toArray, List.set_cons_zero, List.set_cons_succ]
    refine wpAnyH_take (i := 2) (oi := { dst := some 7, op := Go.Op.fieldAddr 33 (Go.Operand.tmp 6) 1, type := 0, pos := "l10_paths.go:134", after := #[{ on := 1, ground := Go.Ground.data }], guard := none }) (v := ?vab2) rfl (by kernel_rfl) (by kernel_rfl) (by kernel_rfl) (fun _ _ _ h => h) (Or.inl ⟨by rfl, ?hab2⟩) hHeld ?rab2
    case hab2 => (intro w hSw; (try dsimp only at hSw); go_simp; try with_reducible rfl)
    try simp only [Act.put, List.setIfInBounds_toArray, List.set_cons_zero, List.set_cons_succ]
    refine wpAnyH_take (i := 3) (oi := { dst := some 8, op := Go.Op.load 30 (Go.Operand.tmp 7), type := 30, pos := "l10_paths.go:134", after := #[{ on := 2, ground := Go.Ground.data }], guard := none }) (v := ?vab3) rfl (by kernel_rfl) (by kernel_rfl) (by kernel_rfl) (fun _ _ _ h => h) (Or.inl ⟨by rfl, ?hab3⟩) hHeld ?rab3
    case hab3 => (intro w hSw; (try dsimp only at hSw); go_simp; try with_reducible rfl)
    try simp only [Act.put, List.setIfInBounds_toArray, List.set_cons_zero, List.set_cons_succ]
    refine wpAnyH_take (i := 4) (oi := { dst := some 9, op := Go.Op.fieldAddr 73 (Go.Operand.tmp 3) 0, type := 0, pos := "l10_paths.go:134", after := #[], guard := none }) (v := ?vab4) rfl (by kernel_rfl) (by kernel_rfl) (by kernel_rfl) (fun _ _ _ h => h) (Or.inl ⟨by rfl, ?hab4⟩) hHeld ?rab4
    case hab4 => (intro w hSw; (try dsimp only at hSw); go_simp; try with_reducible rfl)
    try simp only [Act.put, List.setIfInBounds_toArray, List.set_cons_zero, List.set_cons_succ]
    refine wpAnyH_take (i := 5) (oi := { dst := some 10, op := Go.Op.load 2 (Go.Operand.tmp 9), type := 2, pos := "l10_paths.go:134", after := #[{ on := 4, ground := Go.Ground.data }], guard := none }) (v := ?vab5) rfl (by kernel_rfl) (by kernel_rfl) (by kernel_rfl) (fun _ _ _ h => h) (Or.inl ⟨by rfl, ?hab5⟩) hHeld ?rab5
    case hab5 => (intro w hSw; (try dsimp only at hSw); go_simp; try with_reducible rfl)
    try simp only [Act.put, List.setIfInBounds_toArray, List.set_cons_zero, List.set_cons_succ]
    refine wpAnyH_take (i := 6) (oi := { dst := some 11, op := Go.Op.indexAddr 30 (Go.Operand.tmp 8) (Go.Operand.tmp 10), type := 0, pos := "l10_paths.go:134", after := #[{ on := 3, ground := Go.Ground.data }, { on := 5, ground := Go.Ground.data }], guard := none }) (v := ?vab6) rfl (by kernel_rfl) (by kernel_rfl) (by kernel_rfl) (fun _ _ _ h => h) (Or.inl ⟨by rfl, ?hab6⟩) hHeld ?rab6
    case hab6 => (intro w hSw; (try dsimp only at hSw); go_simp; try with_reducible rfl)
    try simp only [Act.put, List.setIfInBounds_toArray, List.set_cons_zero, List.set_cons_succ]
    refine wpAnyH_take (i := 7) (oi := { dst := some 12, op := Go.Op.fieldAddr 57 (Go.Operand.tmp 11) 1, type := 0, pos := "l10_paths.go:134", after := #[{ on := 6, ground := Go.Ground.data }], guard := none }) (v := ?vab7) rfl (by kernel_rfl) (by kernel_rfl) (by kernel_rfl) (fun _ _ _ h => h) (Or.inl ⟨by rfl, ?hab7⟩) hHeld ?rab7
    case hab7 => (intro w hSw; (try dsimp only at hSw); go_simp; try with_reducible rfl)
    try simp only [Act.put, List.setIfInBounds_toArray, List.set_cons_zero, List.set_cons_succ]
    refine wpAnyH_take (i := 8) (oi := { dst := some 13, op := Go.Op.load 2 (Go.Operand.tmp 12), type := 2, pos := "l10_paths.go:134", after := #[{ on := 7, ground := Go.Ground.data }], guard := none }) (v := ?vab8) rfl (by kernel_rfl) (by kernel_rfl) (by kernel_rfl) (fun _ _ _ h => h) (Or.inl ⟨by rfl, ?hab8⟩) hHeld ?rab8
    case hab8 => (intro w hSw; (try dsimp only at hSw); go_simp; try with_reducible rfl)
    try simp only [Act.put, List.setIfInBounds_toArray, List.set_cons_zero, List.set_cons_succ]
    refine wpAnyH_take (i := 9) (oi := { dst := some 14, op := Go.Op.fieldAddr 67 (Go.Operand.tmp 2) 0, type := 0, pos := "l10_paths.go:134", after := #[], guard := none }) (v := ?vab9) rfl (by kernel_rfl) (by kernel_rfl) (by kernel_rfl) (fun _ _ _ h => h) (Or.inl ⟨by rfl, ?hab9⟩) hHeld ?rab9
    case hab9 => (intro w hSw; (try dsimp only at hSw); go_simp; try with_reducible rfl)
    try simp only [Act.put, List.setIfInBounds_toArray, List.set_cons_zero, List.set_cons_succ]
    refine wpAnyH_take (i := 10) (oi := { dst := some 15, op := Go.Op.fieldAddr 65 (Go.Operand.tmp 14) 0, type := 0, pos := "l10_paths.go:134", after := #[{ on := 9, ground := Go.Ground.data }], guard := none }) (v := ?vab10) rfl (by kernel_rfl) (by kernel_rfl) (by kernel_rfl) (fun _ _ _ h => h) (Or.inl ⟨by rfl, ?hab10⟩) hHeld ?rab10
    case hab10 => (intro w hSw; (try dsimp only at hSw); go_simp; try with_reducible rfl)
    try simp only [Act.put, List.setIfInBounds_toArray, List.set_cons_zero, List.set_cons_succ]
    refine wpAnyH_take (i := 11) (oi := { dst := some 16, op := Go.Op.fieldAddr 33 (Go.Operand.tmp 15) 1, type := 0, pos := "l10_paths.go:134", after := #[{ on := 10, ground := Go.Ground.data }], guard := none }) (v := ?vab11) rfl (by kernel_rfl) (by kernel_rfl) (by kernel_rfl) (fun _ _ _ h => h) (Or.inl ⟨by rfl, ?hab11⟩) hHeld ?rab11
    case hab11 => (intro w hSw; (try dsimp only at hSw); go_simp; try with_reducible rfl)
    try simp only [Act.put, List.setIfInBounds_toArray, List.set_cons_zero, List.set_cons_succ]
    refine wpAnyH_take (i := 12) (oi := { dst := some 17, op := Go.Op.load 30 (Go.Operand.tmp 16), type := 30, pos := "l10_paths.go:134", after := #[{ on := 11, ground := Go.Ground.data }], guard := none }) (v := ?vab12) rfl (by kernel_rfl) (by kernel_rfl) (by kernel_rfl) (fun _ _ _ h => h) (Or.inl ⟨by rfl, ?hab12⟩) hHeld ?rab12
    case hab12 => (intro w hSw; (try dsimp only at hSw); go_simp; try with_reducible rfl)
    try simp only [Act.put, List.setIfInBounds_toArray, List.set_cons_zero, List.set_cons_succ]
    refine wpAnyH_take (i := 13) (oi := { dst := some 18, op := Go.Op.fieldAddr 73 (Go.Operand.tmp 3) 1, type := 0, pos := "l10_paths.go:134", after := #[], guard := none }) (v := ?vab13) rfl (by kernel_rfl) (by kernel_rfl) (by kernel_rfl) (fun _ _ _ h => h) (Or.inl ⟨by rfl, ?hab13⟩) hHeld ?rab13
    case hab13 => (intro w hSw; (try dsimp only at hSw); go_simp; try with_reducible rfl)
    try simp only [Act.put, List.setIfInBounds_toArray, List.set_cons_zero, List.set_cons_succ]
    refine wpAnyH_take (i := 14) (oi := { dst := some 19, op := Go.Op.load 2 (Go.Operand.tmp 18), type := 2, pos := "l10_paths.go:134", after := #[{ on := 13, ground := Go.Ground.data }], guard := none }) (v := ?vab14) rfl (by kernel_rfl) (by kernel_rfl) (by kernel_rfl) (fun _ _ _ h => h) (Or.inl ⟨by rfl, ?hab14⟩) hHeld ?rab14
    case hab14 => (intro w hSw; (try dsimp only at hSw); go_simp; try with_reducible rfl)
    try simp only [Act.put, List.setIfInBounds_toArray, List.set_cons_zero, List.set_cons_succ]
    refine wpAnyH_take (i := 15) (oi := { dst := some 20, op := Go.Op.indexAddr 30 (Go.Operand.tmp 17) (Go.Operand.tmp 19), type := 0, pos := "l10_paths.go:134", after := #[{ on := 12, ground := Go.Ground.data }, { on := 14, ground := Go.Ground.data }], guard := none }) (v := ?vab15) rfl (by kernel_rfl) (by kernel_rfl) (by kernel_rfl) (fun _ _ _ h => h) (Or.inl ⟨by rfl, ?hab15⟩) hHeld ?rab15
    case hab15 => (intro w hSw; (try dsimp only at hSw); go_simp; try with_reducible rfl)
    try simp only [Act.put, List.setIfInBounds_toArray, List.set_cons_zero, List.set_cons_succ]
    refine wpAnyH_take (i := 16) (oi := { dst := some 21, op := Go.Op.fieldAddr 57 (Go.Operand.tmp 20) 0, type := 0, pos := "l10_paths.go:134", after := #[{ on := 15, ground := Go.Ground.data }], guard := none }) (v := ?vab16) rfl (by kernel_rfl) (by kernel_rfl) (by kernel_rfl) (fun _ _ _ h => h) (Or.inl ⟨by rfl, ?hab16⟩) hHeld ?rab16
    case hab16 => (intro w hSw; (try dsimp only at hSw); go_simp; try with_reducible rfl)
    try simp only [Act.put, List.setIfInBounds_toArray, List.set_cons_zero, List.set_cons_succ]
    refine wpAnyH_take (i := 17) (oi := { dst := some 22, op := Go.Op.load 2 (Go.Operand.tmp 21), type := 2, pos := "l10_paths.go:134", after := #[{ on := 16, ground := Go.Ground.data }], guard := none }) (v := ?vab17) rfl (by kernel_rfl) (by kernel_rfl) (by kernel_rfl) (fun _ _ _ h => h) (Or.inl ⟨by rfl, ?hab17⟩) hHeld ?rab17
    case hab17 => (intro w hSw; (try dsimp only at hSw); go_simp; try with_reducible rfl)
    try simp only [Act.put, List.setIfInBounds_toArray, List.set_cons_zero, List.set_cons_succ]
    refine wpAnyH_take (i := 18) (oi := { dst := some 23, op := Go.Op.binOp Go.BinOp.neq 2 (Go.Operand.tmp 13) (Go.Operand.tmp 22) 2, type := 4, pos := "l10_paths.go:134", after := #[{ on := 8, ground := Go.Ground.data }, { on := 17, ground := Go.Ground.data }], guard := none }) (v := ?vab18) rfl (by kernel_rfl) (by kernel_rfl) (by kernel_rfl) (fun _ _ _ h => h) (Or.inl ⟨by rfl, ?hab18⟩) hHeld ?rab18
    case hab18 => (intro w hSw; (try dsimp only at hSw); go_simp; try with_reducible rfl)
    try simp only [Act.put, List.setIfInBounds_toArray, List.set_cons_zero, List.set_cons_succ]
    refine wpAnyH_take (i := 19) (oi := { dst := some 24, op := Go.Op.move (Go.Operand.tmp 23), type := 4, pos := "l10_paths.go:134", after := #[{ on := 18, ground := Go.Ground.data }], guard := none }) (v := ?vab19) rfl (by kernel_rfl) (by kernel_rfl) (by kernel_rfl) (fun _ _ _ h => h) (Or.inl ⟨by rfl, ?hab19⟩) hHeld ?rab19
    case hab19 => (intro w hSw; (try dsimp only at hSw); go_simp; try with_reducible rfl)
    try simp only [Act.put, List.setIfInBounds_toArray, List.set_cons_zero, List.set_cons_succ]
    refine wpAnyH_take (i := 20) (oi := { dst := some 25, op := Go.Op.fieldAddr 67 (Go.Operand.tmp 2) 0, type := 0, pos := "l10_paths.go:134", after := #[{ on := 19, ground := Go.Ground.guard }], guard := some (19, false) }) (v := undef) rfl (by kernel_rfl) (by kernel_rfl) (by kernel_rfl) (fun _ _ _ h => h) (Or.inr ⟨by rfl, rfl⟩) hHeld ?_
    try simp only [Act.put, List.setIfInBounds_toArray, List.set_cons_zero, List.set_cons_succ]
    refine wpAnyH_take (i := 21) (oi := { dst := some 26, op := Go.Op.fieldAddr 65 (Go.Operand.tmp 25) 3, type := 0, pos := "l10_paths.go:134", after := #[{ on := 20, ground := Go.Ground.data }, { on := 19, ground := Go.Ground.guard }], guard := some (19, false) }) (v := undef) rfl (by kernel_rfl) (by kernel_rfl) (by kernel_rfl) (fun _ _ _ h => h) (Or.inr ⟨by rfl, rfl⟩) hHeld ?_
    try simp only [Act.put, List.setIfInBounds_toArray, List.set_cons_zero, List.set_cons_succ]
    refine wpAnyH_take (i := 22) (oi := { dst := some 27, op := Go.Op.load 63 (Go.Operand.tmp 26), type := 63, pos := "l10_paths.go:134", after := #[{ on := 21, ground := Go.Ground.data }, { on := 19, ground := Go.Ground.guard }], guard := some (19, false) }) (v := undef) rfl (by kernel_rfl) (by kernel_rfl) (by kernel_rfl) (fun _ _ _ h => h) (Or.inr ⟨by rfl, rfl⟩) hHeld ?_
    try simp only [Act.put, List.setIfInBounds_toArray, List.set_cons_zero, List.set_cons_succ]
    refine wpAnyH_take (i := 23) (oi := { dst := some 28, op := Go.Op.load 73 (Go.Operand.tmp 3), type := 73, pos := "l10_paths.go:134", after := #[{ on := 19, ground := Go.Ground.guard }], guard := some (19, false) }) (v := undef) rfl (by kernel_rfl) (by kernel_rfl) (by kernel_rfl) (fun _ _ _ h => h) (Or.inr ⟨by rfl, rfl⟩) hHeld ?_
    try simp only [Act.put, List.setIfInBounds_toArray, List.set_cons_zero, List.set_cons_succ]
    refine wpAnyH_take (i := 24) (oi := { dst := some 29, op := Go.Op.call { callee := Go.Callee.value (Go.Operand.func 70), args := #[Go.Operand.tmp 27, Go.Operand.tmp 28], argTypes := #[63, 73] }, type := 4, pos := "l10_paths.go:134", after := #[{ on := 22, ground := Go.Ground.data }, { on := 23, ground := Go.Ground.data }, { on := 19, ground := Go.Ground.chain }, { on := 19, ground := Go.Ground.guard }], guard := some (19, false) }) (v := undef) rfl (by kernel_rfl) (by kernel_rfl) (by kernel_rfl) (fun _ _ _ h => h) (Or.inr ⟨by rfl, rfl⟩) hHeld ?_
    try simp only [Act.put, List.setIfInBounds_toArray, List.set_cons_zero, List.set_cons_succ]
    refine wpAnyH_take (i := 25) (oi := { dst := some 30, op := Go.Op.pick (Go.Operand.tmp 24) (Go.Operand.const (Go.Value.bool true)) (Go.Operand.tmp 29), type := 4, pos := "l10_paths.go:134", after := #[{ on := 19, ground := Go.Ground.data }, { on := 24, ground := Go.Ground.data }], guard := none }) (v := ?vab25) rfl (by kernel_rfl) (by kernel_rfl) (by kernel_rfl) (fun _ _ _ h => h) (Or.inl ⟨by rfl, ?hab25⟩) hHeld ?rab25
    case hab25 => (intro w hSw; (try dsimp only at hSw); go_simp; try with_reducible rfl)
    try simp only [Act.put, List.setIfInBounds_toArray, List.set_cons_zero, List.set_cons_succ]
    refine wpAnyH_done (by kernel_rfl) ?_ _
    refine NoPanic.normal ?_
    go_wp2
    go_ret
    exact ⟨by rw [HF.out]; rfl, bel_step hBW hHeld⟩
end Go.Proofs.YtponmbjflablcaaDoor

namespace Go.Proofs.YtponmbjflablcaaDoor
open Go.RowKit Go.Maps

/-- What streetsOf tells. -/
structure StrOut (w : World) (s0 s1 s2 : Value) (g : GraphD) (e : Ending) (w' : World) : Prop where
  out : ∃ lo Bb Be M Wd V, e = .returned (.tuple #[.agg #[s0, s1, s2, .slice (some ⟨Bb, 0, none⟩) g.places.length g.places.length, .slice (some ⟨Be, 0, none⟩) g.places.length g.places.length, .map (some M), .slice (some ⟨Wd, 0, none⟩) g.roads.length g.roads.length], .bool true]) ∧
    Tabs lo w' (fun t => cond t Bb Be) g.places.length V (bgF g.roads g.roads.length) ∧ BSet w' M g.bans.length (inL g.bans) ∧ Wnd w' Wd g.roads.length g.roads.length g ∧ M < lo ∧ M ≠ Bb ∧ M ≠ Be ∧ (w.heap.size ≤ M ∧ w.heap.size ≤ Bb ∧ w.heap.size ≤ Be ∧ w.heap.size ≤ Wd) ∧ Bel w w'
theorem infoW : (Tryd.prog.info? 2).map (fun i => (i.zero, i.size, i.bytes)) = some (some (.int .i64 0), 1, 8) := by kernel_rfl
theorem Frx.bel_of {B : Nat} {a b c : World} (h : Bel a b) (k : Frx (fun x => x ≠ B) b c) (hB : a.heap.size ≤ B) : Bel a c :=
  h.out.trans (k.below (fun x hx e => by omega) h.out.size)
theorem Frx.cell {X : Nat → Prop} {a b : World} (h : Frx X a b) {B o : Nat} {v : Value} (hB : B < a.heap.size) (hX : X B) (hc : a.cell? ⟨B, o, none⟩ = some v) : b.cell? ⟨B, o, none⟩ = some v := by
  rw [World.cell?_of_block (a := ⟨B, o, none⟩) (h.block B hB hX)]; exact hc
theorem Frx.winds {X : Nat → Prop} {a b : World} (h : Frx X a b) (hX : X 0) (k : Winds a) : Winds b := by
  obtain ⟨h0, c⟩ := k
  have e := h.block 0 h0 hX
  refine ⟨Nat.lt_of_lt_of_le h0 h.size, ?_⟩
  have q : ∀ o, b.cell? ⟨0, o, none⟩ = a.cell? ⟨0, o, none⟩ := fun o => World.cell?_of_block (a := ⟨0, o, none⟩) e
  simp only [q]
  exact c
theorem spot_cell {w : World} {b off : Nat} {l : List SpotD} {bs : List Nat} (h : SpotL w (some ⟨b, off, none⟩) l bs) {p : Nat} (hp : p < l.length) :
    w.cell? ⟨b, off + p * 3 + 1, none⟩ = some (.int .i64 l[p].x) ∧ w.cell? ⟨b, off + p * 3 + 2, none⟩ = some (.int .i64 l[p].y) := by
  obtain ⟨b', off', f, e, _, hx⟩ := h.out hp
  injection e with e
  injection e with e1 e2
  subst e1 e2
  obtain ⟨_, _, _, _, _, h1, h2⟩ := hx p hp
  exact ⟨h1, h2⟩

set_option maxRecDepth 100000 in
set_option maxHeartbeats 4000000 in
theorem streetsOf_yes (a0 : Option Addr) (n0 c0 : Nat) (a1 : Option Addr) (n1 c1 : Nat) (a2 : Option Addr) (n2 c2 : Nat) (g : GraphD) (b0 b1 b2 : List Nat) (w : World) (hT : Winds w) (t0 : SpotL w a0 g.places b0) (t1 : RoadL w a1 g.roads b1) (t2 : BanL w a2 g.bans b2) (e0 : g.places.length = n0) (e1 : g.roads.length = n1) (e2 : g.bans.length = n2) (hP : graphP g) :
    Calls Tryd.prog 38 #[gphV a0 n0 c0 a1 n1 c1 a2 n2 c2] w fun e w' => StrOut w (.slice a0 n0 c0) (.slice a1 n1 c1) (.slice a2 n2 c2) g e w' := by
  have H0 : Hid (g.places.length = n0) := e0
  have H1 : Hid (g.roads.length = n1) := e1
  have H2 : Hid (g.bans.length = n2) := e2
  have HP : Hid (graphP g) := hP
  have m1 : n1 ≤ 8000 := by rw [← e1]; exact hP.1.2.1
  have m0 : n0 ≤ 5000 := by rw [← e0]; exact hP.1.1
  clear hP
  have hmk : ∀ w : World, (Instr.makeSlice 37 (.int .i64 n1) (.int .i64 n1)).run Tryd.prog w = .ok (.slice (some ⟨w.heap.size, 0, none⟩) n1 n1) (w.alloc (.cells (madeCells #[.int .i64 0] n1) 2)) := fun w => by
    obtain ⟨i0, hi, hz0, hz1, hz2⟩ := info_parts infoW
    have := run_make (P := Tryd.prog) w 37 2 i0 (.int .i64 0) Tryd.underlying37 hi hz0 .i64 .i64 n1 n1 (by omega) (by omega) (by rw [hz2]; omega) (by omega)
    rw [hz1, Nat.mul_one] at this
    exact this
  obtain ⟨W, HW⟩ : ∃ W, Hid (W = (w.alloc (.cells #[.slice a0 n0 c0, .slice a1 n1 c1, .slice a2 n2 c2] 33)).alloc (.cells #[.slice none 0 0, .slice none 0 0, .slice none 0 0, .slice none 0 0, .slice none 0 0, .map none, .slice none 0 0] 67)) := ⟨_, (rfl : (w.alloc (.cells #[.slice a0 n0 c0, .slice a1 n1 c1, .slice a2 n2 c2] 33)).alloc (.cells #[.slice none 0 0, .slice none 0 0, .slice none 0 0, .slice none 0 0, .slice none 0 0, .map none, .slice none 0 0] 67) = _)⟩
  have hBW : Bel w W := by rw [HW.out]; exact bel_alloc (bel_alloc (Bel.refl _) _) _
  have XG : Blk W w.heap.size [.slice a0 n0 c0, .slice a1 n1 c1, .slice a2 n2 c2] := by rw [HW.out]; exact (Blk.new w [.slice a0 n0 c0, .slice a1 n1 c1, .slice a2 n2 c2] _).bel (bel_alloc (Bel.refl _) _)
  have XZ : Blk W (w.heap.size + 1) [.slice none 0 0, .slice none 0 0, .slice none 0 0, .slice none 0 0, .slice none 0 0, .map none, .slice none 0 0] := by rw [HW.out]; exact Blk.new1 w _ [.slice none 0 0, .slice none 0 0, .slice none 0 0, .slice none 0 0, .slice none 0 0, .map none, .slice none 0 0] _
  clear e0 e1 e2
  go_enter Tryd.func38, Tryd.ntmps38
  go_wp2_with fail
  rw [← HW.out]
  refine (networkOf_yes _ _ _ _ _ _ _ _ _ g b0 b1 b2 _ (t0.bel spotE hBW) (t1.bel roadE hBW) (t2.bel banE hBW) H0.out H1.out H2.out HP.out).mono ?_
  rintro e w1 ⟨⟨lo, Bb, Be, M, V, rfl, hTb, hS, zm, d1, d2, ⟨o1, o2, o3⟩, hb1⟩⟩
  rw [H0.out] at hTb ⊢
  have hB1 := bel_step hBW hb1
  obtain ⟨U, HU⟩ : ∃ U, Hid (U = w1.alloc (.cells #[.slice a0 n0 c0, .slice a1 n1 c1, .slice a2 n2 c2, .slice (some ⟨Bb, 0, none⟩) n0 n0, .slice (some ⟨Be, 0, none⟩) n0 n0, .map (some M)] 65)) := ⟨_, (rfl : w1.alloc (.cells #[.slice a0 n0 c0, .slice a1 n1 c1, .slice a2 n2 c2, .slice (some ⟨Bb, 0, none⟩) n0 n0, .slice (some ⟨Be, 0, none⟩) n0 n0, .map (some M)] 65) = _)⟩
  have hbU : Bel w1 U := by rw [HU.out]; exact bel_alloc (Bel.refl _) _
  have XU : Blk U w1.heap.size [.slice a0 n0 c0, .slice a1 n1 c1, .slice a2 n2 c2, .slice (some ⟨Bb, 0, none⟩) n0 n0, .slice (some ⟨Be, 0, none⟩) n0 n0, .map (some M)] := by rw [HU.out]; exact Blk.new w1 [.slice a0 n0 c0, .slice a1 n1 c1, .slice a2 n2 c2, .slice (some ⟨Bb, 0, none⟩) n0 n0, .slice (some ⟨Be, 0, none⟩) n0 n0, .map (some M)] _
  have HUs : Hid (U.heap.size = w1.heap.size + 1) := (by rw [HU.out]; simp : U.heap.size = w1.heap.size + 1)
  obtain ⟨W1, HW1⟩ : ∃ W1, Hid (W1 = U.alloc (.cells (madeCells #[.int .i64 0] n1) 2)) := ⟨_, (rfl : U.alloc (.cells (madeCells #[.int .i64 0] n1) 2) = _)⟩
  have hbW1 : Bel U W1 := by rw [HW1.out]; exact bel_alloc (Bel.refl _) _
  have WN : Wnd W1 U.heap.size n1 0 g := by rw [HW1.out]; exact Wnd.new U n1 _ g
  obtain ⟨Wd, HWd⟩ : ∃ Wd, Hid (U.heap.size = Wd) := ⟨_, (rfl : U.heap.size = _)⟩
  rw [HWd.out] at WN
  have XG1 := (XG.bel hb1).bel hbU
  have XZ1 := (XZ.bel hb1).bel hbU
  have x1 : U.cell? ⟨w.heap.size, 1, none⟩ = some (.slice a1 n1 c1) := XG1.cell 1 (by simp)
  have xl := XG1.lt
  have hBU := bel_step hB1 hbU
  have hB2 := bel_step hBU hbW1
  have sz1 := hB1.out.size
  have zG := XG.lt
  have zZ := XZ.lt
  have hlt1 : W.heap.size ≤ w1.heap.size := hb1.out.size
  have nWG : w.heap.size ≠ Wd := by have := HWd.out; have := HUs.out; omega
  have nWZ : w.heap.size + 1 ≠ Wd := by have := HWd.out; have := HUs.out; omega
  have nWN : w1.heap.size ≠ Wd := by have := HWd.out; have := HUs.out; omega
  have HT1 : Hid (Winds W1) := hT.bel hB2
  have T0 : Hid (SpotL W1 a0 g.places b0) := t0.bel spotE hB2
  have T1 : Hid (RoadL W1 a1 g.roads b1) := t1.bel roadE hB2
  have HB0 : Hid (∀ x ∈ b0, x ≠ Wd) := fun x hx => by have := t0.lt spotE x hx; have := HWd.out; have := HUs.out; omega
  have HB1 : Hid (∀ x ∈ b1, x ≠ Wd) := fun x hx => by have := t1.lt roadE x hx; have := HWd.out; have := HUs.out; omega
  have HXG : Hid (Blk W1 w.heap.size [.slice a0 n0 c0, .slice a1 n1 c1, .slice a2 n2 c2]) := XG1.bel hbW1
  have HXZ : Hid (Blk W1 (w.heap.size + 1) [.slice none 0 0, .slice none 0 0, .slice none 0 0, .slice none 0 0, .slice none 0 0, .map none, .slice none 0 0]) := XZ1.bel hbW1
  have HXU : Hid (Blk W1 w1.heap.size [.slice a0 n0 c0, .slice a1 n1 c1, .slice a2 n2 c2, .slice (some ⟨Bb, 0, none⟩) n0 n0, .slice (some ⟨Be, 0, none⟩) n0 n0, .map (some M)]) := XU.bel hbW1
  have HTb : Hid (Tabs lo w1 (fun t => cond t Bb Be) n0 V (bgF g.roads g.roads.length)) := hTb
  have HS : Hid (BSet w1 M g.bans.length (inL g.bans)) := hS
  have hB3 : Hid (Bel w1 W1) := bel_step hbU hbW1
  have HWl : Hid (Wd < W1.heap.size) := WN.lt
  have h0W : (0 : Nat) ≠ Wd := by have := HT1.out.1; have := hT.1; have := HWd.out; have := HUs.out; omega
  clear XG XZ XU XG1 XZ1 hTb hS t0 t1 t2 hT
  go_upto_region 4 with fail
  rw [← HU.out]
  have hmkU := hmk U
  rw [HWd.out, ← HW1.out] at hmkU
  clear hmk
  go_upto_region 5 with fail
  clear x1 hmkU
  have y1 : W1.cell? ⟨w.heap.size, 1, none⟩ = some (.slice a1 n1 c1) := HXG.out.cell 1 (by simp)
  have yl := HXG.out.lt
  go_wp2
  go_loopw [7, 8, 24] (fun _ _ i wr => ∃ k : Nat, k ≤ n1 ∧ i = .int .i64 k ∧ Wnd wr Wd n1 k g ∧ Frx (fun x => x ≠ Wd) W1 wr) (fun _ _ i _ => n1 - (intOf i).toNat)
  case atStart => exact ⟨0, Nat.zero_le _, rfl, WN, Frx.refl _ _⟩
  case round =>
    clear WN y1 yl
    obtain ⟨k, hk, rfl, hWn, hFr⟩ := hrel
    by_cases hlt : k < n1
    · have hkl : k < g.roads.length := by rw [H1.out]; exact hlt
      obtain ⟨b, off, f, rfl, hb, hx⟩ := (hFr.sl roadE T1.out HB1.out).out hkl
      obtain ⟨_, _, _, _, _, _, _, z0, z1, z2, z3, z4, z5⟩ := hx k hkl
      have hro := roadB_out (HP.out.2.2.1 k hkl)
      obtain ⟨p, hp, ep⟩ := inN_nat (n := g.places.length) (x := g.roads[k].fr) (inN_iff.2 hro.1)
      obtain ⟨q, hq, eq⟩ := inN_nat (n := g.places.length) (x := g.roads[k].to) (inN_iff.2 hro.2.1)
      have HH : Hid (hdR g k = headOf g.places[p].x g.places[p].y g.places[q].x g.places[q].y) := hdR_at hkl hp hq ep eq
      obtain ⟨b', off', f', rfl, hb', _⟩ := (hFr.sl spotE T0.out HB0.out).out hp
      obtain ⟨x0, Hx0⟩ : ∃ x, Hid (g.places[p].x = x) := ⟨_, (rfl : g.places[p].x = _)⟩
      obtain ⟨y0, Hy0⟩ : ∃ x, Hid (g.places[p].y = x) := ⟨_, (rfl : g.places[p].y = _)⟩
      obtain ⟨x1, Hx1⟩ : ∃ x, Hid (g.places[q].x = x) := ⟨_, (rfl : g.places[q].x = _)⟩
      obtain ⟨y1, Hy1⟩ : ∃ x, Hid (g.places[q].y = x) := ⟨_, (rfl : g.places[q].y = _)⟩
      rw [Hx0.out, Hy0.out, Hx1.out, Hy1.out] at HH
      rw [ep] at z0
      rw [eq] at z1
      obtain ⟨d, Hd⟩ : ∃ d, Hid (d = g.roads[k]) := ⟨_, (rfl : g.roads[k] = _)⟩
      rw [← Hd.out] at z2 z3 z4 z5
      obtain ⟨X, HX⟩ : ∃ X, Hid (X = wr.alloc (.cells #[.int .i64 (p : Int), .int .i64 (q : Int), .int .i64 d.way, .int .i64 d.time, .int .i64 d.len, .string d.name] 57)) := ⟨_, (rfl : wr.alloc (.cells #[.int .i64 (p : Int), .int .i64 (q : Int), .int .i64 d.way, .int .i64 d.time, .int .i64 d.len, .string d.name] 57) = _)⟩
      have hbX : Bel wr X := by rw [HX.out]; exact bel_alloc (Bel.refl _) _
      have XX : Blk X wr.heap.size [.int .i64 (p : Int), .int .i64 (q : Int), .int .i64 d.way, .int .i64 d.time, .int .i64 d.len, .string d.name] := by rw [HX.out]; exact Blk.new wr [.int .i64 (p : Int), .int .i64 (q : Int), .int .i64 d.way, .int .i64 d.time, .int .i64 d.len, .string d.name] _
      have hFX := hFr.trans (Frx.bel hbX)
      have hWX := hWn.bel hbX
      have szW : Wd < W1.heap.size := HWl.out
      have szr := hFr.size
      have nR : wr.heap.size ≠ Wd := by omega
      have hpn : (p : Int) < (n0 : Int) := by rw [← H0.out]; omega
      have hqn : (q : Int) < (n0 : Int) := by rw [← H0.out]; omega
      have hS : ∀ w', Frx (fun x => x ≠ Wd) X w' → w'.cell? ⟨w.heap.size, 0, none⟩ = some (.slice (some ⟨b', off', none⟩) n0 c0) ∧ w'.cell? ⟨wr.heap.size, 0, none⟩ = some (.int .i64 (p : Int)) ∧ w'.cell? ⟨wr.heap.size, 1, none⟩ = some (.int .i64 (q : Int)) ∧ w'.cell? ⟨b', off' + p * 3 + 1, none⟩ = some (.int .i64 x0) ∧ w'.cell? ⟨b', off' + p * 3 + 1 + 1, none⟩ = some (.int .i64 y0) ∧ w'.cell? ⟨b', off' + q * 3 + 1, none⟩ = some (.int .i64 x1) ∧ w'.cell? ⟨b', off' + q * 3 + 1 + 1, none⟩ = some (.int .i64 y1) := fun w' h => by
        have h0 := spot_cell ((hFX.trans h).sl spotE T0.out HB0.out) hp
        have h1 := spot_cell ((hFX.trans h).sl spotE T0.out HB0.out) hq
        rw [Hx0.out, Hy0.out] at h0
        rw [Hx1.out, Hy1.out] at h1
        exact ⟨(hFX.trans h).cell HXG.out.lt nWG (HXG.out.cell 0 (by simp)), h.cell XX.lt nR (XX.cell 0 (by simp)), h.cell XX.lt nR (XX.cell 1 (by simp)), h0.1, h0.2, h1.1, h1.2⟩
      have hTX : ∀ w', Frx (fun x => x ≠ Wd) X w' → Winds w' := fun w' h => (hFX.trans h).winds h0W HT1.out
      have g0 : Frx (fun x => x ≠ Wd) X X := Frx.refl _ _
      have hltI : (k : Int) < (n1 : Int) := by omega
      have hSt : ∀ w' u, Frx (fun x => x ≠ Wd) X w' → Frx (fun x => x ≠ Wd) X (w'.setCell ⟨Wd, k, none⟩ u) := fun w' u h => h.trans (Frx.grow (setCell_grown _ _ _ _) (fun x hx hX => hX (by injection hx with hx; exact hx.symm)))
      have HWn : Hid (∀ w', Bel X w' → Wnd w' Wd n1 k g) := fun w' h => hWX.bel h
      have hWc : ∀ w', Bel X w' → (∃ u, w'.cell? ⟨Wd, k, none⟩ = some u) ∧ w'.frozen? ⟨Wd, k, none⟩ = false := fun w' h => ⟨(hWX.bel h).there k hlt, (hWX.bel h).free k⟩
      clear hx hWn XX hro ep eq
      go_upto_region 8 with fail
      rw [← HX.out]
      clear z0 z1 z2 z3 z4 z5
      have hHd : ∀ w', Frx (fun x => x ≠ Wd) X w' → Bel X w' → Calls Tryd.prog 69 #[pt x0 y0, pt x1 y1] w' fun e w2 => e = .returned (.int .i64 (hdR g k)) ∧ Bel w' w2 ∧ Hid (Wnd w2 Wd n1 k g) ∧ (∃ u, w2.cell? ⟨Wd, k, none⟩ = some u) ∧ w2.frozen? ⟨Wd, k, none⟩ = false := fun w' h h2 => by
        refine (heading_any x0 y0 x1 y1 w' (hTX _ h)).mono ?_
        rintro e w2 ⟨rfl, hb2⟩
        exact ⟨by rw [HH.out], hb2, HWn.out w2 (bel_step h2 hb2), (hWc w2 (bel_step h2 hb2)).1, (hWc w2 (bel_step h2 hb2)).2⟩
      clear hWc hTX
      refine wp_region_noPanic ?_
      refine wp_region_held_drew (S := fun w' => Frx (fun x => x ≠ Wd) X w') (by kernel_rfl) (Frx.bel (Bel.drew (Bel.refl _))) (fun hHeld => ?_)
      refine wpAnyH_take (i := 0) (oi := { dst := some 29, op := Go.Op.move (Go.Operand.tmp 6), type := 37, pos := "l10_paths.go:127", after := #[], guard := none }) (v := ?vab0) rfl (by kernel_rfl) (by kernel_rfl) (by kernel_rfl) (fun _ _ _ h => h) (Or.inl ⟨by rfl, ?hab0⟩) hHeld ?rab0
      case hab0 => (intro w hSw; (try dsimp only at hSw); go_simp; try with_reducible rfl)
      try simp only [Act.put, List.setIfInBounds_toArray, List.set_cons_zero, List.set_cons_succ]
      refine wpAnyH_take (i := 1) (oi := { dst := some 30, op := Go.Op.move (Go.Operand.tmp 7), type := 3, pos := "l10_paths.go:127", after := #[], guard := none }) (v := ?vab1) rfl (by kernel_rfl) (by kernel_rfl) (by kernel_rfl) (fun _ _ _ h => h) (Or.inl ⟨by rfl, ?hab1⟩) hHeld ?rab1
      case hab1 => (intro w hSw; (try dsimp only at hSw); go_simp; try with_reducible rfl)
      try simp only [Act.put, List.setIfInBounds_toArray, List.set_cons_zero, List.set_cons_succ]
      refine wpAnyH_take (i := 2) (oi := { dst := some 31, op := Go.Op.fieldAddr 33 (Go.Operand.tmp 1) 0, type := 0, pos := "l10_paths.go:127", after := #[], guard := none }) (v := ?vab2) rfl (by kernel_rfl) (by kernel_rfl) (by kernel_rfl) (fun _ _ _ h => h) (Or.inl ⟨by rfl, ?hab2⟩) hHeld ?rab2
      case hab2 => (intro w hSw; (try dsimp only at hSw); go_simp; try with_reducible rfl)
      try simp only [Act.put, List.setIfInBounds_toArray, List.set_cons_zero, List.set_cons_succ]
      refine wpAnyH_take (i := 3) (oi := { dst := some 32, op := Go.Op.load 29 (Go.Operand.tmp 31), type := 29, pos := "l10_paths.go:127", after := #[{ on := 2, ground := Go.Ground.data }], guard := none }) (v := ?vab3) rfl (by kernel_rfl) (by kernel_rfl) (by kernel_rfl) (fun _ _ _ h => h) (Or.inl ⟨by rfl, ?hab3⟩) hHeld ?rab3
      case hab3 => (intro w hSw; (try dsimp only at hSw); go_simp; try with_reducible rfl)
      try simp only [Act.put, List.setIfInBounds_toArray, List.set_cons_zero, List.set_cons_succ]
      refine wpAnyH_take (i := 4) (oi := { dst := some 33, op := Go.Op.fieldAddr 57 (Go.Operand.tmp 8) 0, type := 0, pos := "l10_paths.go:127", after := #[], guard := none }) (v := ?vab4) rfl (by kernel_rfl) (by kernel_rfl) (by kernel_rfl) (fun _ _ _ h => h) (Or.inl ⟨by rfl, ?hab4⟩) hHeld ?rab4
      case hab4 => (intro w hSw; (try dsimp only at hSw); go_simp; try with_reducible rfl)
      try simp only [Act.put, List.setIfInBounds_toArray, List.set_cons_zero, List.set_cons_succ]
      refine wpAnyH_take (i := 5) (oi := { dst := some 34, op := Go.Op.load 2 (Go.Operand.tmp 33), type := 2, pos := "l10_paths.go:127", after := #[{ on := 4, ground := Go.Ground.data }], guard := none }) (v := ?vab5) rfl (by kernel_rfl) (by kernel_rfl) (by kernel_rfl) (fun _ _ _ h => h) (Or.inl ⟨by rfl, ?hab5⟩) hHeld ?rab5
      case hab5 => (intro w hSw; (try dsimp only at hSw); go_simp; try with_reducible rfl)
      try simp only [Act.put, List.setIfInBounds_toArray, List.set_cons_zero, List.set_cons_succ]
      refine wpAnyH_take (i := 6) (oi := { dst := some 35, op := Go.Op.indexAddr 29 (Go.Operand.tmp 32) (Go.Operand.tmp 34), type := 0, pos := "l10_paths.go:127", after := #[{ on := 3, ground := Go.Ground.data }, { on := 5, ground := Go.Ground.data }], guard := none }) (v := ?vab6) rfl (by kernel_rfl) (by kernel_rfl) (by kernel_rfl) (fun _ _ _ h => h) (Or.inl ⟨by rfl, ?hab6⟩) hHeld ?rab6
      case hab6 => (intro w hSw; (try dsimp only at hSw); go_simp; try with_reducible rfl)
      try simp only [Act.put, List.setIfInBounds_toArray, List.set_cons_zero, List.set_cons_succ]
      refine wpAnyH_take (i := 7) (oi := { dst := some 36, op := Go.Op.fieldAddr 81 (Go.Operand.tmp 35) 1, type := 0, pos := "l10_paths.go:127", after := #[{ on := 6, ground := Go.Ground.data }], guard := none }) (v := ?vab7) rfl (by kernel_rfl) (by kernel_rfl) (by kernel_rfl) (fun _ _ _ h => h) (Or.inl ⟨by rfl, ?hab7⟩) hHeld ?rab7
      case hab7 => (intro w hSw; (try dsimp only at hSw); go_simp; try with_reducible rfl)
      try simp only [Act.put, List.setIfInBounds_toArray, List.set_cons_zero, List.set_cons_succ]
      refine wpAnyH_take (i := 8) (oi := { dst := some 37, op := Go.Op.load 79 (Go.Operand.tmp 36), type := 79, pos := "l10_paths.go:127", after := #[{ on := 7, ground := Go.Ground.data }], guard := none }) (v := ?vab8) rfl (by kernel_rfl) (by kernel_rfl) (by kernel_rfl) (fun _ _ _ h => h) (Or.inl ⟨by rfl, ?hab8⟩) hHeld ?rab8
      case hab8 => (intro w hSw; (try dsimp only at hSw); go_simp; try with_reducible rfl)
      try simp only [Act.put, List.setIfInBounds_toArray, List.set_cons_zero, List.set_cons_succ]
      refine wpAnyH_take (i := 9) (oi := { dst := some 38, op := Go.Op.fieldAddr 33 (Go.Operand.tmp 1) 0, type := 0, pos := "l10_paths.go:127", after := #[], guard := none }) (v := ?vab9) rfl (by kernel_rfl) (by kernel_rfl) (by kernel_rfl) (fun _ _ _ h => h) (Or.inl ⟨by rfl, ?hab9⟩) hHeld ?rab9
      case hab9 => (intro w hSw; (try dsimp only at hSw); go_simp; try with_reducible rfl)
      try simp only [Act.put, List.setIfInBounds_toArray, List.set_cons_zero, List.set_cons_succ]
      refine wpAnyH_take (i := 10) (oi := { dst := some 39, op := Go.Op.load 29 (Go.Operand.tmp 38), type := 29, pos := "l10_paths.go:127", after := #[{ on := 9, ground := Go.Ground.data }], guard := none }) (v := ?vab10) rfl (by kernel_rfl) (by kernel_rfl) (by kernel_rfl) (fun _ _ _ h => h) (Or.inl ⟨by rfl, ?hab10⟩) hHeld ?rab10
      case hab10 => (intro w hSw; (try dsimp only at hSw); go_simp; try with_reducible rfl)
      try simp only [Act.put, List.setIfInBounds_toArray, List.set_cons_zero, List.set_cons_succ]
      refine wpAnyH_take (i := 11) (oi := { dst := some 40, op := Go.Op.fieldAddr 57 (Go.Operand.tmp 8) 1, type := 0, pos := "l10_paths.go:127", after := #[], guard := none }) (v := ?vab11) rfl (by kernel_rfl) (by kernel_rfl) (by kernel_rfl) (fun _ _ _ h => h) (Or.inl ⟨by rfl, ?hab11⟩) hHeld ?rab11
      case hab11 => (intro w hSw; (try dsimp only at hSw); go_simp; try with_reducible rfl)
      try simp only [Act.put, List.setIfInBounds_toArray, List.set_cons_zero, List.set_cons_succ]
      refine wpAnyH_take (i := 12) (oi := { dst := some 41, op := Go.Op.load 2 (Go.Operand.tmp 40), type := 2, pos := "l10_paths.go:127", after := #[{ on := 11, ground := Go.Ground.data }], guard := none }) (v := ?vab12) rfl (by kernel_rfl) (by kernel_rfl) (by kernel_rfl) (fun _ _ _ h => h) (Or.inl ⟨by rfl, ?hab12⟩) hHeld ?rab12
      case hab12 => (intro w hSw; (try dsimp only at hSw); go_simp; try with_reducible rfl)
      try simp only [Act.put, List.setIfInBounds_toArray, List.set_cons_zero, List.set_cons_succ]
      refine wpAnyH_take (i := 13) (oi := { dst := some 42, op := Go.Op.indexAddr 29 (Go.Operand.tmp 39) (Go.Operand.tmp 41), type := 0, pos := "l10_paths.go:127", after := #[{ on := 10, ground := Go.Ground.data }, { on := 12, ground := Go.Ground.data }], guard := none }) (v := ?vab13) rfl (by kernel_rfl) (by kernel_rfl) (by kernel_rfl) (fun _ _ _ h => h) (Or.inl ⟨by rfl, ?hab13⟩) hHeld ?rab13
      case hab13 => (intro w hSw; (try dsimp only at hSw); go_simp; try with_reducible rfl)
      try simp only [Act.put, List.setIfInBounds_toArray, List.set_cons_zero, List.set_cons_succ]
      refine wpAnyH_take (i := 14) (oi := { dst := some 43, op := Go.Op.fieldAddr 81 (Go.Operand.tmp 42) 1, type := 0, pos := "l10_paths.go:127", after := #[{ on := 13, ground := Go.Ground.data }], guard := none }) (v := ?vab14) rfl (by kernel_rfl) (by kernel_rfl) (by kernel_rfl) (fun _ _ _ h => h) (Or.inl ⟨by rfl, ?hab14⟩) hHeld ?rab14
      case hab14 => (intro w hSw; (try dsimp only at hSw); go_simp; try with_reducible rfl)
      try simp only [Act.put, List.setIfInBounds_toArray, List.set_cons_zero, List.set_cons_succ]
      refine wpAnyH_take (i := 15) (oi := { dst := some 44, op := Go.Op.load 79 (Go.Operand.tmp 43), type := 79, pos := "l10_paths.go:127", after := #[{ on := 14, ground := Go.Ground.data }], guard := none }) (v := ?vab15) rfl (by kernel_rfl) (by kernel_rfl) (by kernel_rfl) (fun _ _ _ h => h) (Or.inl ⟨by rfl, ?hab15⟩) hHeld ?rab15
      case hab15 => (intro w hSw; (try dsimp only at hSw); go_simp; try with_reducible rfl)
      try simp only [Act.put, List.setIfInBounds_toArray, List.set_cons_zero, List.set_cons_succ]
      refine wpAnyH_ready (rs := [16]) (by kernel_rfl) (by simp) ?_
      refine AllReadyH.cons (o := { dst := some 45, op := Go.Op.call { callee := Go.Callee.value (Go.Operand.func 69), args := #[Go.Operand.tmp 37, Go.Operand.tmp 44], argTypes := #[79, 79] }, type := 2, pos := "l10_paths.go:127", after := #[{ on := 8, ground := Go.Ground.data }, { on := 15, ground := Go.Ground.data }], guard := none }) rfl (fun K hK => ?_) AllReadyH.nil
      go_simp
      refine (hHd _ hHeld (Bel.drew (Bel.refl _))).mono ?_
      rintro e w2 ⟨rfl, hb2, hW2, ⟨u2, hc2⟩, hf2⟩
      go_wp2_with fail
      refine hK.out _ _ (hHeld.trans (Frx.bel hb2)) (fun hHeld' => ?_)
      clear hK K hHeld
      have hHeld := hHeld'
      clear hHeld'
      try simp only [Act.put, List.setIfInBounds_toArray, List.set_cons_zero, List.set_cons_succ]
      refine wpAnyH_take (i := 17) (oi := { dst := some 46, op := Go.Op.indexAddr 37 (Go.Operand.tmp 29) (Go.Operand.tmp 30), type := 0, pos := "l10_paths.go:127", after := #[{ on := 0, ground := Go.Ground.data }, { on := 1, ground := Go.Ground.data }, { on := 0, ground := Go.Ground.phase }, { on := 1, ground := Go.Ground.phase }, { on := 2, ground := Go.Ground.phase }, { on := 3, ground := Go.Ground.phase }, { on := 4, ground := Go.Ground.phase }, { on := 5, ground := Go.Ground.phase }, { on := 6, ground := Go.Ground.phase }, { on := 7, ground := Go.Ground.phase }, { on := 8, ground := Go.Ground.phase }, { on := 9, ground := Go.Ground.phase }, { on := 10, ground := Go.Ground.phase }, { on := 11, ground := Go.Ground.phase }, { on := 12, ground := Go.Ground.phase }, { on := 13, ground := Go.Ground.phase }, { on := 14, ground := Go.Ground.phase }, { on := 15, ground := Go.Ground.phase }, { on := 16, ground := Go.Ground.phase }], guard := none }) (v := ?vab17) rfl (by kernel_rfl) (by kernel_rfl) (by kernel_rfl) (fun _ _ _ h => h) (Or.inl ⟨by rfl, ?hab17⟩) hHeld ?rab17
      case hab17 => (intro w hSw; (try dsimp only at hSw); go_simp; try with_reducible rfl)
      try simp only [Act.put, List.setIfInBounds_toArray, List.set_cons_zero, List.set_cons_succ]
      refine wpAnyH_ready (rs := [18]) (by kernel_rfl) (by simp) ?_
      refine AllReadyH.cons (o := { dst := none, op := Go.Op.store 2 (Go.Operand.tmp 46) (Go.Operand.tmp 45), type := 0, pos := "l10_paths.go:127", after := #[{ on := 17, ground := Go.Ground.data }, { on := 16, ground := Go.Ground.data }, { on := 16, ground := Go.Ground.chain }, { on := 0, ground := Go.Ground.phase }, { on := 1, ground := Go.Ground.phase }, { on := 2, ground := Go.Ground.phase }, { on := 3, ground := Go.Ground.phase }, { on := 4, ground := Go.Ground.phase }, { on := 5, ground := Go.Ground.phase }, { on := 6, ground := Go.Ground.phase }, { on := 7, ground := Go.Ground.phase }, { on := 8, ground := Go.Ground.phase }, { on := 9, ground := Go.Ground.phase }, { on := 10, ground := Go.Ground.phase }, { on := 11, ground := Go.Ground.phase }, { on := 12, ground := Go.Ground.phase }, { on := 13, ground := Go.Ground.phase }, { on := 14, ground := Go.Ground.phase }, { on := 15, ground := Go.Ground.phase }, { on := 16, ground := Go.Ground.phase }], guard := none }) rfl (fun K hK => ?_) AllReadyH.nil
      go_simp
      refine hK.out _ _ (hSt _ _ hHeld) (fun hHeld' => ?_)
      clear hK K hHeld
      have hHeld := hHeld'
      clear hHeld'
      try simp only [Act.put, List.setIfInBounds_toArray, List.set_cons_zero, List.set_cons_succ]
      refine wpAnyH_done (by kernel_rfl) ?_ _
      refine NoPanic.normal ?_
      have HWn2 : Hid (Wnd (w2.setCell ⟨Wd, k, none⟩ (.int .i64 (hdR g k))) Wd n1 (k + 1) g) := hW2.out.put hlt
      have HFr2 : Hid (Frx (fun x => x ≠ Wd) W1 (w2.setCell ⟨Wd, k, none⟩ (.int .i64 (hdR g k)))) := hFX.trans hHeld
      clear hS hHeld hc2 hf2 hHd
      go_wp2
      go_roundw
      case rel => exact ⟨k + 1, by omega, by go_num, HWn2.out, HFr2.out⟩
      case measure => simp [intOf]; omega
    · have e : k = n1 := by omega
      subst e
      have XN2 := hFr.blk HXU.out nWN
      have XZ2 := hFr.blk HXZ.out nWZ
      have hB4 : Bel w1 wr := Frx.bel_of hB3.out hFr (by have := HWd.out; have := HUs.out; omega)
      have hT2 := HTb.out.bel hB4
      have hS2 := HS.out.bel hB4
      have hBr := bel_step hB1 hB4
      have zWd : w.heap.size ≤ Wd := by have := HWd.out; have := HUs.out; omega
      have s0 : wr.cell? ⟨w1.heap.size, 0, none⟩ = some (.slice a0 n0 c0) := XN2.cell 0 (by simp)
      have s1 : wr.cell? ⟨w1.heap.size, 1, none⟩ = some (.slice a1 k c1) := XN2.cell 1 (by simp)
      have s2 : wr.cell? ⟨w1.heap.size, 2, none⟩ = some (.slice a2 n2 c2) := XN2.cell 2 (by simp)
      have s3 : wr.cell? ⟨w1.heap.size, 3, none⟩ = some (.slice (some ⟨Bb, 0, none⟩) n0 n0) := XN2.cell 3 (by simp)
      have s4 : wr.cell? ⟨w1.heap.size, 4, none⟩ = some (.slice (some ⟨Be, 0, none⟩) n0 n0) := XN2.cell 4 (by simp)
      have s5 : wr.cell? ⟨w1.heap.size, 5, none⟩ = some (.map (some M)) := XN2.cell 5 (by simp)
      have sl := XN2.lt
      have r0 : wr.cell? ⟨w.heap.size + 1, 0, none⟩ = some (.slice none 0 0) := XZ2.cell 0 (by simp)
      have r1 : wr.cell? ⟨w.heap.size + 1, 1, none⟩ = some (.slice none 0 0) := XZ2.cell 1 (by simp)
      have r2 : wr.cell? ⟨w.heap.size + 1, 2, none⟩ = some (.slice none 0 0) := XZ2.cell 2 (by simp)
      have r3 : wr.cell? ⟨w.heap.size + 1, 3, none⟩ = some (.slice none 0 0) := XZ2.cell 3 (by simp)
      have r4 : wr.cell? ⟨w.heap.size + 1, 4, none⟩ = some (.slice none 0 0) := XZ2.cell 4 (by simp)
      have r5 : wr.cell? ⟨w.heap.size + 1, 5, none⟩ = some (.map none) := XZ2.cell 5 (by simp)
      have r6 : wr.cell? ⟨w.heap.size + 1, 6, none⟩ = some (.slice none 0 0) := XZ2.cell 6 (by simp)
      have rf := XZ2.free
      have rl := XZ2.lt
      have HA : Hid (∀ W', wr.grownBy W' (some (w.heap.size + 1)) → StrOut w (.slice a0 n0 c0) (.slice a1 k c1) (.slice a2 n2 c2) g (.returned (.tuple #[.agg #[.slice a0 n0 c0, .slice a1 k c1, .slice a2 n2 c2, .slice (some ⟨Bb, 0, none⟩) n0 n0, .slice (some ⟨Be, 0, none⟩) n0 n0, .map (some M), .slice (some ⟨Wd, 0, none⟩) k k], .bool true])) W') := fun W' hg => by
        refine ⟨⟨lo, Bb, Be, M, Wd, V, by rw [H0.out, H1.out], ?_, ?_, ?_, zm, d1, d2, ⟨by omega, by omega, by omega, by omega⟩, bel_grow hBr hg (fun k hk => by injection hk with hk; omega)⟩⟩
        · rw [H0.out]; exact hT2.kept hg (by omega) (by show w.heap.size + 1 ≠ Bb; omega) (by show w.heap.size + 1 ≠ Be; omega)
        · exact hS2.kept hg (fun e => by injection e with e; omega)
        · rw [H1.out]; exact hWn.frx (X := fun x => x ≠ w.heap.size + 1) (Frx.grow hg (fun x hx hX => hX (by injection hx with hx; exact hx.symm))) (fun e => nWZ e.symm)
      clear hT2 hS2 XN2 XZ2 hBr hWn hFr hB4
      go_wp2
      refine bodyPost_ret (v := .tuple #[.agg #[.slice a0 n0 c0, .slice a1 k c1, .slice a2 n2 c2, .slice (some ⟨Bb, 0, none⟩) n0 n0, .slice (some ⟨Be, 0, none⟩) n0 n0, .map (some M), .slice (some ⟨Wd, 0, none⟩) k k], .bool true]) (by simp [results, Tryd.results38, go_sem, r0, r1, r2, r3, r4, r5, r6]) rfl ?_
      refine HA.out _ ?_
      with_reducible repeat (first | exact World.grownBy.refl _ _ | refine World.grownBy.trans ?_ (setCell_grown _ _ _ _))

set_option maxRecDepth 100000 in
set_option maxHeartbeats 1000000 in
theorem streetsOf_no (a0 : Option Addr) (n0 c0 : Nat) (a1 : Option Addr) (n1 c1 : Nat) (a2 : Option Addr) (n2 c2 : Nat) (g : GraphD) (bs : List Nat) (w : World) (hV : GphV w (gphV a0 n0 c0 a1 n1 c1 a2 n2 c2) g bs) (hQ : GphQ g) (hP : ¬ graphP g) :
    Calls Tryd.prog 38 #[gphV a0 n0 c0 a1 n1 c1 a2 n2 c2] w fun e w' => e = .returned (.tuple #[.agg #[.slice none 0 0, .slice none 0 0, .slice none 0 0, .slice none 0 0, .slice none 0 0, .map none, .slice none 0 0], .bool false]) ∧ Bel w w' := by
  obtain ⟨W, HW⟩ : ∃ W, Hid (W = (w.alloc (.cells #[.slice a0 n0 c0, .slice a1 n1 c1, .slice a2 n2 c2] 33)).alloc (.cells #[.slice none 0 0, .slice none 0 0, .slice none 0 0, .slice none 0 0, .slice none 0 0, .map none, .slice none 0 0] 67)) := ⟨_, (rfl : (w.alloc (.cells #[.slice a0 n0 c0, .slice a1 n1 c1, .slice a2 n2 c2] 33)).alloc (.cells #[.slice none 0 0, .slice none 0 0, .slice none 0 0, .slice none 0 0, .slice none 0 0, .map none, .slice none 0 0] 67) = _)⟩
  have hBW : Bel w W := by rw [HW.out]; exact bel_alloc (bel_alloc (Bel.refl _) _) _
  have XZ : Blk W (w.heap.size + 1) [.slice none 0 0, .slice none 0 0, .slice none 0 0, .slice none 0 0, .slice none 0 0, .map none, .slice none 0 0] := by rw [HW.out]; exact Blk.new1 w _ [.slice none 0 0, .slice none 0 0, .slice none 0 0, .slice none 0 0, .slice none 0 0, .map none, .slice none 0 0] _
  go_enter Tryd.func38, Tryd.ntmps38
  go_wp2_with fail
  rw [← HW.out]
  refine (networkOf_no _ _ _ _ _ _ _ _ _ g bs _ (hV.bel hBW) hQ hP).mono ?_
  rintro e w1 ⟨rfl, hb1⟩
  have hB1 := bel_step hBW hb1
  obtain ⟨U, HU⟩ : ∃ U, Hid (U = w1.alloc (.cells #[.slice none 0 0, .slice none 0 0, .slice none 0 0, .slice none 0 0, .slice none 0 0, .map none] 65)) := ⟨_, (rfl : w1.alloc (.cells #[.slice none 0 0, .slice none 0 0, .slice none 0 0, .slice none 0 0, .slice none 0 0, .map none] 65) = _)⟩
  have hbU : Bel w1 U := by rw [HU.out]; exact bel_alloc (Bel.refl _) _
  have XZ2 := (XZ.bel hb1).bel hbU
  have hBU := bel_step hB1 hbU
  have r0 : U.cell? ⟨w.heap.size + 1, 0, none⟩ = some (.slice none 0 0) := XZ2.cell 0 (by simp)
  have r1 : U.cell? ⟨w.heap.size + 1, 1, none⟩ = some (.slice none 0 0) := XZ2.cell 1 (by simp)
  have r2 : U.cell? ⟨w.heap.size + 1, 2, none⟩ = some (.slice none 0 0) := XZ2.cell 2 (by simp)
  have r3 : U.cell? ⟨w.heap.size + 1, 3, none⟩ = some (.slice none 0 0) := XZ2.cell 3 (by simp)
  have r4 : U.cell? ⟨w.heap.size + 1, 4, none⟩ = some (.slice none 0 0) := XZ2.cell 4 (by simp)
  have r5 : U.cell? ⟨w.heap.size + 1, 5, none⟩ = some (.map none) := XZ2.cell 5 (by simp)
  have r6 : U.cell? ⟨w.heap.size + 1, 6, none⟩ = some (.slice none 0 0) := XZ2.cell 6 (by simp)
  have rf := XZ2.free
  have rl := XZ2.lt
  have HA : Hid (∀ W', U.grownBy W' (some (w.heap.size + 1)) → Bel w W') := fun W' hg => bel_grow hBU hg (fun k hk => by injection hk with hk; omega)
  clear XZ XZ2 hBU
  go_upto_region 2 with fail
  rw [← HU.out]
  go_wp2
  refine bodyPost_ret (v := .tuple #[.agg #[.slice none 0 0, .slice none 0 0, .slice none 0 0, .slice none 0 0, .slice none 0 0, .map none, .slice none 0 0], .bool false]) (by simp [results, Tryd.results38, go_sem, r0, r1, r2, r3, r4, r5, r6]) rfl ?_
  refine ⟨rfl, HA.out _ ?_⟩
  with_reducible repeat (first | exact World.grownBy.refl _ _ | refine World.grownBy.trans ?_ (setCell_grown _ _ _ _))
end Go.Proofs.YtponmbjflablcaaDoor

namespace Go.Proofs.YtponmbjflablcaaDoor
open Go.RowKit Go.Maps

theorem ttQ_eq {g : GraphD} {i j : Nat} (hP : graphP g) (hi : i < g.roads.length) (hj : j < g.roads.length) : ttQ g (i : Int) (j : Int) = ttB g i j := by
  by_cases h : g.roads[i].to = g.roads[j].fr
  · rw [ttQ_at hP hi hj h, ttB_yes (by rw [rdAt_eq hi, rdAt_eq hj]; exact h)]
  · rw [ttQ_apart hi hj h, ttB_no (by rw [rdAt_eq hi, rdAt_eq hj]; exact h)]

set_option maxRecDepth 100000 in
set_option maxHeartbeats 2000000 in
theorem turnTimeI_any (v : Value) (g : GraphD) (bs : List Nat) (x y : Int) (w : World) (hT : Winds w) (hV : GphV w v g bs) (hQ : GphQ g) :
    Calls Tryd.prog 11 #[v, .int .i64 x, .int .i64 y] w fun e w' => e = .returned (.int .i64 (ttQ g x y)) ∧ Bel w w' := by
  have hV' := hV
  obtain ⟨a0, c0, a1, c1, a2, c2, b0, b1, b2, _, rfl, t0, t1, t2⟩ := hV
  obtain ⟨n0, H0⟩ : ∃ n, Hid (g.places.length = n) := ⟨_, (rfl : g.places.length = _)⟩
  obtain ⟨n1, H1⟩ : ∃ n, Hid (g.roads.length = n) := ⟨_, (rfl : g.roads.length = _)⟩
  obtain ⟨n2, H2⟩ : ∃ n, Hid (g.bans.length = n) := ⟨_, (rfl : g.bans.length = _)⟩
  rw [H0.out, H1.out, H2.out] at hV' ⊢
  obtain ⟨W, HW⟩ : ∃ W, Hid (W = w.alloc (.cells #[.slice a0 n0 c0, .slice a1 n1 c1, .slice a2 n2 c2] 33)) := ⟨_, (rfl : w.alloc (.cells #[.slice a0 n0 c0, .slice a1 n1 c1, .slice a2 n2 c2] 33) = _)⟩
  have hBW : Bel w W := by rw [HW.out]; exact bel_alloc (Bel.refl _) _
  have XG : Blk W w.heap.size [.slice a0 n0 c0, .slice a1 n1 c1, .slice a2 n2 c2] := by rw [HW.out]; exact Blk.new w [.slice a0 n0 c0, .slice a1 n1 c1, .slice a2 n2 c2] _
  obtain ⟨R, HR⟩ : ∃ R, Hid (ttQ g x y = R) := ⟨_, (rfl : ttQ g x y = _)⟩
  rw [HR.out]
  by_cases hP : graphP g
  · have HP : Hid (graphP g) := hP
    have m1 : n1 ≤ 8000 := by rw [← H1.out]; exact hP.1.2.1
    clear hP
    go_enter Tryd.func11, Tryd.ntmps11
    go_wp2_with fail
    rw [← HW.out]
    refine (streetsOf_yes _ _ _ _ _ _ _ _ _ g b0 b1 b2 _ (hT.bel hBW) (t0.bel spotE hBW) (t1.bel roadE hBW) (t2.bel banE hBW) H0.out H1.out H2.out HP.out).mono ?_
    rintro e w1 ⟨⟨lo, Bb, Be, M, Wd, V, rfl, _, hS, hWn, _, _, _, _, hb1⟩⟩
    rw [H1.out] at hWn
    rw [H0.out, H1.out]
    have hB1 := bel_step hBW hb1
    obtain ⟨U, HU⟩ : ∃ U, Hid (U = w1.alloc (.cells #[.slice a0 n0 c0, .slice a1 n1 c1, .slice a2 n2 c2, .slice (some ⟨Bb, 0, none⟩) n0 n0, .slice (some ⟨Be, 0, none⟩) n0 n0, .map (some M), .slice (some ⟨Wd, 0, none⟩) n1 n1] 67)) := ⟨_, (rfl : w1.alloc (.cells #[.slice a0 n0 c0, .slice a1 n1 c1, .slice a2 n2 c2, .slice (some ⟨Bb, 0, none⟩) n0 n0, .slice (some ⟨Be, 0, none⟩) n0 n0, .map (some M), .slice (some ⟨Wd, 0, none⟩) n1 n1] 67) = _)⟩
    have hbU : Bel w1 U := by rw [HU.out]; exact bel_alloc (Bel.refl _) _
    have hBU := bel_step hB1 hbU
    have XG1 := (XG.bel hb1).bel hbU
    have x0 : U.cell? ⟨w.heap.size, 0, none⟩ = some (.slice a0 n0 c0) := XG1.cell 0 (by simp)
    have x1 : U.cell? ⟨w.heap.size, 1, none⟩ = some (.slice a1 n1 c1) := XG1.cell 1 (by simp)
    have xl := XG1.lt
    rcases Bool.eq_false_or_eq_true (inN n1 x) with hx | hx
    rotate_left
    · have HF : Hid (R = -1) := (by rw [← HR.out]; exact ttQ_no (fun h => by have := h.2.1; rw [H1.out, hx] at this; cases this) : R = -1)
      clear XG1 XG hS hWn
      go_upto_region 2 with fail
      rw [← HU.out]
      go_wp2_with fail
      refine (inRoad_r _ _ _ _ false _ hx).mono ?_
      rintro e w' ⟨rfl, rfl⟩
      go_wp2
      go_ret
      exact ⟨by rw [HF.out]; rfl, hBU⟩
    rcases Bool.eq_false_or_eq_true (inN n1 y) with hy | hy
    rotate_left
    · have HF : Hid (R = -1) := (by rw [← HR.out]; exact ttQ_no (fun h => by have := h.2.2; rw [H1.out, hy] at this; cases this) : R = -1)
      clear XG1 XG hS hWn
      go_upto_region 2 with fail
      rw [← HU.out]
      go_wp2_with fail
      refine (inRoad_r _ _ _ _ true _ hx).mono ?_
      rintro e w' ⟨rfl, rfl⟩
      go_wp2_with fail
      refine (inRoad_r _ _ _ _ false _ hy).mono ?_
      rintro e w' ⟨rfl, rfl⟩
      go_wp2
      go_ret
      exact ⟨by rw [HF.out]; rfl, hBU⟩
    obtain ⟨i, hi, rfl⟩ := inN_nat hx
    obtain ⟨j, hj, rfl⟩ := inN_nat hy
    have HF : Hid (R = ttB g i j) := (by rw [← HR.out]; exact ttQ_eq HP.out (by rw [H1.out]; exact hi) (by rw [H1.out]; exact hj) : R = ttB g i j)
    have XU : Blk U w1.heap.size [.slice a0 n0 c0, .slice a1 n1 c1, .slice a2 n2 c2, .slice (some ⟨Bb, 0, none⟩) n0 n0, .slice (some ⟨Be, 0, none⟩) n0 n0, .map (some M), .slice (some ⟨Wd, 0, none⟩) n1 n1] := by rw [HU.out]; exact Blk.new w1 [.slice a0 n0 c0, .slice a1 n1 c1, .slice a2 n2 c2, .slice (some ⟨Bb, 0, none⟩) n0 n0, .slice (some ⟨Be, 0, none⟩) n0 n0, .map (some M), .slice (some ⟨Wd, 0, none⟩) n1 n1] _
    have u0 : U.cell? ⟨w1.heap.size, 0, none⟩ = some (.slice a0 n0 c0) := XU.cell 0 (by simp)
    have u1 : U.cell? ⟨w1.heap.size, 1, none⟩ = some (.slice a1 n1 c1) := XU.cell 1 (by simp)
    have u2 : U.cell? ⟨w1.heap.size, 2, none⟩ = some (.slice a2 n2 c2) := XU.cell 2 (by simp)
    have u3 : U.cell? ⟨w1.heap.size, 3, none⟩ = some (.slice (some ⟨Bb, 0, none⟩) n0 n0) := XU.cell 3 (by simp)
    have u4 : U.cell? ⟨w1.heap.size, 4, none⟩ = some (.slice (some ⟨Be, 0, none⟩) n0 n0) := XU.cell 4 (by simp)
    have u5 : U.cell? ⟨w1.heap.size, 5, none⟩ = some (.map (some M)) := XU.cell 5 (by simp)
    have u6 : U.cell? ⟨w1.heap.size, 6, none⟩ = some (.slice (some ⟨Wd, 0, none⟩) n1 n1) := XU.cell 6 (by simp)
    have ul := XU.lt
    have hSU := hS.bel hbU
    have hWU := hWn.bel hbU
    clear XG1 XG hS hWn XU
    go_upto_region 2 with fail
    rw [← HU.out]
    go_wp2_with fail
    refine (inRoad_r _ _ _ _ true _ hx).mono ?_
    rintro e w' ⟨rfl, rfl⟩
    go_wp2_with fail
    refine (inRoad_r _ _ _ _ true _ hy).mono ?_
    rintro e w' ⟨rfl, rfl⟩
    go_wp2_with fail
    refine (turnTime_any _ _ _ _ _ _ _ _ _ _ _ _ _ _ _ M _ Wd g b1 i j _ (t1.bel roadE hBU) H1.out m1 hi hj hWU hSU).mono ?_
    rintro e w3 ⟨rfl, hb3⟩
    clear u0 u1 u2 u3 u4 u5 u6 hSU hWU x0 x1
    go_wp2
    go_ret
    exact ⟨by rw [HF.out]; rfl, bel_step hBU hb3⟩
  · have HF : Hid (R = -1) := (by rw [← HR.out]; exact ttQ_no (fun h => hP h.1) : R = -1)
    go_enter Tryd.func11, Tryd.ntmps11
    go_wp2_with fail
    rw [← HW.out]
    refine (streetsOf_no _ _ _ _ _ _ _ _ _ g bs _ (hV'.bel hBW) hQ hP).mono ?_
    rintro e w1 ⟨rfl, hb1⟩
    have hB1 := bel_step hBW hb1
    clear XG
    go_wp2
    go_ret
    exact ⟨by rw [HF.out]; rfl, bel_alloc hB1 _⟩
end Go.Proofs.YtponmbjflablcaaDoor

namespace Go.Proofs.YtponmbjflablcaaDoor
open Go.RowKit Go.Maps

theorem int_cell {w : World} {b off : Nat} {l : List Int} {bs : List Nat} (h : Ints w (some ⟨b, off, none⟩) l bs) {k : Nat} (hk : k < l.length) : b < w.heap.size ∧ w.cell? ⟨b, off + k, none⟩ = some (.int .i64 l[k]) := by
  obtain ⟨b', off', f, e, hb, hx⟩ := h.out hk
  injection e with e
  injection e with e1 e2
  subst e1 e2
  have := (hx k hk).2.2
  rw [Nat.mul_one] at this
  exact ⟨hb, this⟩
theorem road_cell {w : World} {b off : Nat} {g : GraphD} {bs : List Nat} (h : RoadL w (some ⟨b, off, none⟩) g.roads bs) {i : Nat} (hi : i < g.roads.length) :
    w.cell? ⟨b, off + i * 6, none⟩ = some (.int .i64 (rdAt g i).fr) ∧ w.cell? ⟨b, off + i * 6 + 1, none⟩ = some (.int .i64 (rdAt g i).to) ∧ w.cell? ⟨b, off + i * 6 + 3, none⟩ = some (.int .i64 (rdAt g i).time) := by
  obtain ⟨b', off', f, e, _, hx⟩ := h.out hi
  injection e with e
  injection e with e1 e2
  subst e1 e2
  rw [rdAt_eq hi]
  obtain ⟨_, _, _, _, _, _, _, y0, y1, _, y3, _⟩ := hx i hi
  exact ⟨y0, y1, y3⟩

set_option maxRecDepth 100000 in
set_option maxHeartbeats 4000000 in
theorem pathTimeI_any (v : Value) (g : GraphD) (bs : List Nat) (ar : Option Addr) (m cr : Nat) (l : List Int) (br : List Nat) (s t : Int) (w : World) (hT : Winds w) (hV : GphV w v g bs) (hQ : GphQ g) (hI : Ints w ar l br) (hl : l.length = m) (hm : m ≤ 1048576) :
    Calls Tryd.prog 15 #[v, .slice ar m cr, .int .i64 s, .int .i64 t] w fun e w' => e = .returned (.int .i64 (paQ g l s t)) ∧ Bel w w' := by
  have HL : Hid (l.length = m) := hl
  clear hl
  have hV' := hV
  obtain ⟨a0, c0, a1, c1, a2, c2, b0, b1, b2, _, rfl, t0, t1, t2⟩ := hV
  obtain ⟨n0, H0⟩ : ∃ n, Hid (g.places.length = n) := ⟨_, (rfl : g.places.length = _)⟩
  obtain ⟨n1, H1⟩ : ∃ n, Hid (g.roads.length = n) := ⟨_, (rfl : g.roads.length = _)⟩
  obtain ⟨n2, H2⟩ : ∃ n, Hid (g.bans.length = n) := ⟨_, (rfl : g.bans.length = _)⟩
  rw [H0.out, H1.out, H2.out] at hV' ⊢
  obtain ⟨W, HW⟩ : ∃ W, Hid (W = w.alloc (.cells #[.slice a0 n0 c0, .slice a1 n1 c1, .slice a2 n2 c2] 33)) := ⟨_, (rfl : w.alloc (.cells #[.slice a0 n0 c0, .slice a1 n1 c1, .slice a2 n2 c2] 33) = _)⟩
  have hBW : Bel w W := by rw [HW.out]; exact bel_alloc (Bel.refl _) _
  have XG : Blk W w.heap.size [.slice a0 n0 c0, .slice a1 n1 c1, .slice a2 n2 c2] := by rw [HW.out]; exact Blk.new w [.slice a0 n0 c0, .slice a1 n1 c1, .slice a2 n2 c2] _
  obtain ⟨R, HR⟩ : ∃ R, Hid (paQ g l s t = R) := ⟨_, (rfl : paQ g l s t = _)⟩
  rw [HR.out]
  by_cases hP : graphP g
  · have HP : Hid (graphP g) := hP
    have m1 : n1 ≤ 8000 := by rw [← H1.out]; exact hP.1.2.1
    clear hP
    go_enter Tryd.func15, Tryd.ntmps15
    go_wp2_with fail
    rw [← HW.out]
    refine (streetsOf_yes _ _ _ _ _ _ _ _ _ g b0 b1 b2 _ (hT.bel hBW) (t0.bel spotE hBW) (t1.bel roadE hBW) (t2.bel banE hBW) H0.out H1.out H2.out HP.out).mono ?_
    rintro e w1 ⟨⟨lo, Bb, Be, M, Wd, V, rfl, _, hS, hWn, _, _, _, _, hb1⟩⟩
    rw [H1.out] at hWn
    rw [H0.out, H1.out]
    have hB1 := bel_step hBW hb1
    obtain ⟨U, HU⟩ : ∃ U, Hid (U = w1.alloc (.cells #[.slice a0 n0 c0, .slice a1 n1 c1, .slice a2 n2 c2, .slice (some ⟨Bb, 0, none⟩) n0 n0, .slice (some ⟨Be, 0, none⟩) n0 n0, .map (some M), .slice (some ⟨Wd, 0, none⟩) n1 n1] 67)) := ⟨_, (rfl : w1.alloc (.cells #[.slice a0 n0 c0, .slice a1 n1 c1, .slice a2 n2 c2, .slice (some ⟨Bb, 0, none⟩) n0 n0, .slice (some ⟨Be, 0, none⟩) n0 n0, .map (some M), .slice (some ⟨Wd, 0, none⟩) n1 n1] 67) = _)⟩
    have hbU : Bel w1 U := by rw [HU.out]; exact bel_alloc (Bel.refl _) _
    have hBU := bel_step hB1 hbU
    have XG1 := (XG.bel hb1).bel hbU
    have x0 : U.cell? ⟨w.heap.size, 0, none⟩ = some (.slice a0 n0 c0) := XG1.cell 0 (by simp)
    have x1 : U.cell? ⟨w.heap.size, 1, none⟩ = some (.slice a1 n1 c1) := XG1.cell 1 (by simp)
    have xl := XG1.lt
    rcases Bool.eq_false_or_eq_true (inN n0 s) with hs | hs
    rotate_left
    · have HF : Hid (R = -1) := (by rw [← HR.out]; exact paQ_no (fun h => by have := h.2.1; rw [H0.out, hs] at this; cases this) : R = -1)
      clear XG1 XG hS hWn
      go_upto_region 2 with fail
      rw [← HU.out]
      go_wp2_with fail
      refine (inSpot_r _ _ _ _ false _ hs).mono ?_
      rintro e w' ⟨rfl, rfl⟩
      go_wp2
      go_ret
      exact ⟨by rw [HF.out]; rfl, hBU⟩
    rcases Bool.eq_false_or_eq_true (inN n0 t) with ht | ht
    rotate_left
    · have HF : Hid (R = -1) := (by rw [← HR.out]; exact paQ_no (fun h => by have := h.2.2; rw [H0.out, ht] at this; cases this) : R = -1)
      clear XG1 XG hS hWn
      go_upto_region 2 with fail
      rw [← HU.out]
      go_wp2_with fail
      refine (inSpot_r _ _ _ _ true _ hs).mono ?_
      rintro e w' ⟨rfl, rfl⟩
      go_wp2_with fail
      refine (inSpot_r _ _ _ _ false _ ht).mono ?_
      rintro e w' ⟨rfl, rfl⟩
      go_wp2
      go_ret
      exact ⟨by rw [HF.out]; rfl, hBU⟩
    have HRE : Hid (R = paE g l s t) := (by rw [← HR.out]; exact paQ_at HP.out (by rw [H0.out]; exact hs) (by rw [H0.out]; exact ht) : R = paE g l s t)
    have XU : Blk U w1.heap.size [.slice a0 n0 c0, .slice a1 n1 c1, .slice a2 n2 c2, .slice (some ⟨Bb, 0, none⟩) n0 n0, .slice (some ⟨Be, 0, none⟩) n0 n0, .map (some M), .slice (some ⟨Wd, 0, none⟩) n1 n1] := by rw [HU.out]; exact Blk.new w1 [.slice a0 n0 c0, .slice a1 n1 c1, .slice a2 n2 c2, .slice (some ⟨Bb, 0, none⟩) n0 n0, .slice (some ⟨Be, 0, none⟩) n0 n0, .map (some M), .slice (some ⟨Wd, 0, none⟩) n1 n1] _
    have u0 : U.cell? ⟨w1.heap.size, 0, none⟩ = some (.slice a0 n0 c0) := XU.cell 0 (by simp)
    have u1 : U.cell? ⟨w1.heap.size, 1, none⟩ = some (.slice a1 n1 c1) := XU.cell 1 (by simp)
    have u2 : U.cell? ⟨w1.heap.size, 2, none⟩ = some (.slice a2 n2 c2) := XU.cell 2 (by simp)
    have u3 : U.cell? ⟨w1.heap.size, 3, none⟩ = some (.slice (some ⟨Bb, 0, none⟩) n0 n0) := XU.cell 3 (by simp)
    have u4 : U.cell? ⟨w1.heap.size, 4, none⟩ = some (.slice (some ⟨Be, 0, none⟩) n0 n0) := XU.cell 4 (by simp)
    have u5 : U.cell? ⟨w1.heap.size, 5, none⟩ = some (.map (some M)) := XU.cell 5 (by simp)
    have u6 : U.cell? ⟨w1.heap.size, 6, none⟩ = some (.slice (some ⟨Wd, 0, none⟩) n1 n1) := XU.cell 6 (by simp)
    have ul := XU.lt
    have hSU := hS.bel hbU
    have hWU := hWn.bel hbU
    have HC : Hid (∀ w', Bel U w' → w'.cell? ⟨w.heap.size, 1, none⟩ = some (.slice a1 n1 c1) ∧ w'.cell? ⟨w1.heap.size, 0, none⟩ = some (.slice a0 n0 c0) ∧ w'.cell? ⟨w1.heap.size, 1, none⟩ = some (.slice a1 n1 c1) ∧ w'.cell? ⟨w1.heap.size, 2, none⟩ = some (.slice a2 n2 c2) ∧ w'.cell? ⟨w1.heap.size, 3, none⟩ = some (.slice (some ⟨Bb, 0, none⟩) n0 n0) ∧ w'.cell? ⟨w1.heap.size, 4, none⟩ = some (.slice (some ⟨Be, 0, none⟩) n0 n0) ∧ w'.cell? ⟨w1.heap.size, 5, none⟩ = some (.map (some M)) ∧ w'.cell? ⟨w1.heap.size, 6, none⟩ = some (.slice (some ⟨Wd, 0, none⟩) n1 n1)) := fun w' h => ⟨(XG1.bel h).cell 1 (by simp), (XU.bel h).cell 0 (by simp), (XU.bel h).cell 1 (by simp), (XU.bel h).cell 2 (by simp), (XU.bel h).cell 3 (by simp), (XU.bel h).cell 4 (by simp), (XU.bel h).cell 5 (by simp), (XU.bel h).cell 6 (by simp)⟩
    clear XG1 XG hS hWn XU
    go_upto_region 2 with fail
    rw [← HU.out]
    go_wp2_with fail
    refine (inSpot_r _ _ _ _ true _ hs).mono ?_
    rintro e w' ⟨rfl, hw⟩
    have hw := hw.symm
    subst hw
    go_wp2_with fail
    refine (inSpot_r _ _ _ _ true _ ht).mono ?_
    rintro e w' ⟨rfl, hw⟩
    have hw := hw.symm
    subst hw
    clear u0 u1 u2 u3 u4 u5 u6 ul x0 x1 xl
    go_wp2
    go_loopw [11, 12, 13, 14, 15, 40] (fun tm pl _ _ _ ix wr => ∃ (k : Nat) (a b : Int), k ≤ m ∧ ix = .int .i64 k ∧ tm = .int .i64 a ∧ pl = .int .i64 b ∧ Hid (paS g l s k = some (a, b)) ∧ (0 ≤ a ∧ a ≤ k * 1000020) ∧ Bel U wr) (fun _ _ _ _ _ ix _ => m - (intOf ix).toNat)
    case atStart => exact ⟨0, 0, s, Nat.zero_le _, rfl, rfl, rfl, rfl, ⟨by omega, by omega⟩, Bel.refl _⟩
    case round =>
      obtain ⟨k, a, bb, hk, rfl, rfl, rfl, HS, ⟨ha0, ha1⟩, hBr⟩ := hrel
      by_cases hlt : k < m
      · have hkl : k < l.length := by rw [HL.out]; exact hlt
        obtain ⟨b, off, f, rfl, hbr, _⟩ := (hI.bel intE (bel_step hBU hBr)).out hkl
        have hc := (int_cell (hI.bel intE (bel_step hBU hBr)) hkl).2
        obtain ⟨x, Hx⟩ : ∃ x, Hid (l[k] = x) := ⟨_, (rfl : l[k] = _)⟩
        rw [Hx.out] at hc
        obtain ⟨x1, u0, u1, u2, u3, u4, u5, u6⟩ := HC.out wr hBr
        have xl := World.block_lt_of_cell? _ _ x1
        have ul := World.block_lt_of_cell? _ _ u0
        have hltI : (k : Int) < (m : Int) := by omega
        rcases Bool.eq_false_or_eq_true (inN n1 x) with hx | hx
        rotate_left
        · have HF : Hid (R = -1) := (by rw [HRE.out]; exact paE_none (by rw [HL.out]; exact hlt) (paS_out hkl HS.out (by rw [H1.out, Hx.out]; exact hx)) : R = -1)
          clear u0 u1 u2 u3 u4 u5 u6
          go_wp2_with fail
          refine (inRoad_r _ _ _ _ false _ hx).mono ?_
          rintro e w' ⟨rfl, rfl⟩
          go_wp2
          go_ret
          exact ⟨by rw [HF.out]; rfl, bel_step hBU hBr⟩
        obtain ⟨i, hi, rfl⟩ := inN_nat hx
        have hil : i < g.roads.length := by rw [H1.out]; exact hi
        obtain ⟨b', off', f', rfl, hb', _⟩ := (t1.bel roadE (bel_step hBU hBr)).out hil
        obtain ⟨y0, y1, y3⟩ := road_cell (t1.bel roadE (bel_step hBU hBr)) hil
        have hro := roadB_out (HP.out.2.2.1 i hil)
        obtain ⟨F, HFr⟩ : ∃ x, Hid ((rdAt g i).fr = x) := ⟨_, (rfl : (rdAt g i).fr = _)⟩
        obtain ⟨D, HTo⟩ : ∃ x, Hid ((rdAt g i).to = x) := ⟨_, (rfl : (rdAt g i).to = _)⟩
        obtain ⟨T, HTi⟩ : ∃ x, Hid ((rdAt g i).time = x) := ⟨_, (rfl : (rdAt g i).time = _)⟩
        rw [HFr.out] at y0
        rw [HTo.out] at y1
        rw [HTi.out] at y3
        have hT0 : 1 ≤ T ∧ T ≤ 1000000 := by rw [← HTi.out, rdAt_eq hil]; exact hro.2.2.2.1
        obtain ⟨hT0, hT1⟩ := hT0
        have hiI : (i : Int) < (n1 : Int) := by omega
        clear hro
        by_cases hfe : F = bb
        rotate_left
        · have hfb : (F != bb) = true := by simp [hfe]
          have HF : Hid (R = -1) := (by rw [HRE.out]; exact paE_none (by rw [HL.out]; exact hlt) (paS_apart hkl HS.out Hx.out (by rw [HFr.out]; exact hfe)) : R = -1)
          clear u0 u1 u2 u3 u4 u5 u6
          go_wp2_with fail
          refine (inRoad_r _ _ _ _ true _ hx).mono ?_
          rintro e w' ⟨rfl, rfl⟩
          go_wp2
          go_ret
          exact ⟨by rw [HF.out]; rfl, bel_step hBU hBr⟩
        have hfb : (F != bb) = false := by simp [hfe]
        have Hfe : Hid ((rdAt g i).fr = bb) := HFr.out.trans hfe
        clear hfe
        rcases k with _ | j
        · have HN : Hid (paS g l s (0 + 1) = some (a + T, D)) := (by rw [← HTi.out, ← HTo.out]; exact paS_first hkl HS.out Hx.out hil Hfe.out : paS g l s (0 + 1) = some (a + T, D))
          rw [Nat.add_zero] at hc
          clear u0 u1 u2 u3 u4 u5 u6
          go_wp2_with fail
          refine (inRoad_r _ _ _ _ true _ hx).mono ?_
          rintro e w' ⟨rfl, hw⟩
          have hw := hw.symm
          subst hw
          go_wp2
          go_roundw
          case rel => exact ⟨1, a + T, D, by omega, by go_num, rfl, rfl, HN.out, ⟨by omega, by omega⟩, hBr⟩
          case measure => simp [intOf]; omega
        · obtain ⟨q, eq, hq, Hq⟩ := paS_last (by omega) HS.out
          have hqn : q < n1 := by rw [← H1.out]; exact hq
          have Hq : Hid ((rdAt g q).to = bb) := Hq
          have Heq : Hid (l[j]'(by omega) = (q : Int)) := eq
          obtain ⟨C, HCC⟩ : ∃ x, Hid (tnB g q i = x) := ⟨_, (rfl : tnB g q i = _)⟩
          have hCb := tnB_bd g q i
          rw [HCC.out] at hCb
          obtain ⟨hC0, hC1⟩ := hCb
          have HTT : Hid (ttB g q i = C) := (by rw [ttB_yes (by rw [Hq.out, Hfe.out]), HCC.out] : ttB g q i = C)
          have hTT : ∀ w', Bel wr w' → Calls Tryd.prog 40 #[.agg #[.slice a0 n0 c0, .slice (some ⟨b', off', none⟩) n1 c1, .slice a2 n2 c2, .slice (some ⟨Bb, 0, none⟩) n0 n0, .slice (some ⟨Be, 0, none⟩) n0 n0, .map (some M), .slice (some ⟨Wd, 0, none⟩) n1 n1], .agg #[.int .i64 (q : Int), .int .i64 (i : Int)]] w' fun e w2 => e = .returned (.int .i64 C) ∧ Bel w' w2 := fun w' h => by
            rw [← HTT.out]
            exact turnTime_any _ _ _ _ _ _ _ _ _ _ _ _ _ _ _ M _ Wd g b1 q i _ (t1.bel roadE (bel_step hBU (bel_step hBr h))) H1.out m1 hqn hi (hWU.bel (bel_step hBr h)) (hSU.bel (bel_step hBr h))
          have hSS : ∀ w', Bel wr w' → w'.cell? ⟨w1.heap.size, 0, none⟩ = some (.slice a0 n0 c0) ∧ w'.cell? ⟨w1.heap.size, 1, none⟩ = some (.slice (some ⟨b', off', none⟩) n1 c1) ∧ w'.cell? ⟨w1.heap.size, 2, none⟩ = some (.slice a2 n2 c2) ∧ w'.cell? ⟨w1.heap.size, 3, none⟩ = some (.slice (some ⟨Bb, 0, none⟩) n0 n0) ∧ w'.cell? ⟨w1.heap.size, 4, none⟩ = some (.slice (some ⟨Be, 0, none⟩) n0 n0) ∧ w'.cell? ⟨w1.heap.size, 5, none⟩ = some (.map (some M)) ∧ w'.cell? ⟨w1.heap.size, 6, none⟩ = some (.slice (some ⟨Wd, 0, none⟩) n1 n1) ∧ w'.cell? ⟨b, off + j, none⟩ = some (.int .i64 (q : Int)) ∧ w'.cell? ⟨w.heap.size, 1, none⟩ = some (.slice (some ⟨b', off', none⟩) n1 c1) ∧ w'.cell? ⟨b', off' + i * 6 + 1, none⟩ = some (.int .i64 D) ∧ w'.cell? ⟨b', off' + i * 6 + 3, none⟩ = some (.int .i64 T) := fun w' h => by
            obtain ⟨x1', v0, v1, v2, v3, v4, v5, v6⟩ := HC.out w' (bel_step hBr h)
            have h1 := (int_cell (hI.bel intE (bel_step hBU (bel_step hBr h))) (k := j) (by omega)).2
            rw [Heq.out] at h1
            exact ⟨v0, v1, v2, v3, v4, v5, v6, h1, x1', bel_cellM h hb' y1, bel_cellM h hb' y3⟩
          have g0 : Bel wr wr := Bel.refl _
          have hjj : IntKind.i64.wrap (j : Int) = j := by rw [IntKind.wrap_i64]; omega
          have hltj : (j : Int) < (m : Int) := by omega
          have hcast : ((j + 1 : Nat) : Int) = (j : Int) + 1 := by omega
          clear u0 u1 u2 u3 u4 u5 u6 eq
          go_wp2_with fail
          refine (inRoad_r _ _ _ _ true _ hx).mono ?_
          rintro e w' ⟨rfl, hw⟩
          have hw := hw.symm
          subst hw
          go_upto_region 11 with fail
          go_region_held3 (fun w' => Bel wr w') (with_reducible (repeat (first | assumption | exact g0 | refine Bel.drew ?_ | refine bel_then (by assumption) ?_)))
            ((go_at_call 40; refine (hTT _ (by assumption)).mono ?_; rintro e w2 ⟨rfl, hb2⟩))
          have hH : Bel wr w2 := by assumption
          obtain ⟨_, _, _, _, _, _, _, _, x1', y1', y3'⟩ := hSS _ hH
          have xl' := World.block_lt_of_cell? _ _ x1'
          have hB2 := bel_step hBr hH
          clear hSS hTT x1 y0 y1 y3 hc
          by_cases hCn : C < 0
          · have hCd : decide (C < 0) = true := by simp [hCn]
            have HF : Hid (R = -1) := (by rw [HRE.out]; exact paE_none (by rw [HL.out]; exact hlt) (paS_ban hkl HS.out Heq.out Hx.out (by rw [HCC.out]; exact hCn)) : R = -1)
            go_wp2
            go_ret
            exact ⟨by rw [HF.out]; rfl, bel_step hBU hB2⟩
          · have hCd : decide (C < 0) = false := by simp; omega
            have HN : Hid (paS g l s (j + 1 + 1) = some (a + C + T, D)) := (by rw [← HTi.out, ← HTo.out, ← HCC.out]; exact paS_on hkl HS.out Heq.out Hx.out hil Hfe.out (by rw [HCC.out]; omega) : paS g l s (j + 1 + 1) = some (a + C + T, D))
            go_wp2
            go_roundw
            case rel => exact ⟨j + 1 + 1, a + C + T, D, by omega, by go_num, rfl, rfl, HN.out, ⟨by omega, by omega⟩, hB2⟩
            case measure => simp [intOf]; omega
      · have e : k = m := by omega
        subst e
        have HSe : Hid (paS g l s l.length = some (a, bb)) := (by rw [HL.out]; exact HS.out : paS g l s l.length = some (a, bb))
        by_cases he : bb = t
        · have hE : (bb != t) = false := by simp [he]
          have HF : Hid (R = a) := (by rw [HRE.out]; exact paE_end HSe.out he : R = a)
          clear he
          go_wp2
          go_ret
          exact ⟨by rw [HF.out]; rfl, bel_step hBU hBr⟩
        · have hE : (bb != t) = true := by simp [he]
          have HF : Hid (R = -1) := (by rw [HRE.out]; exact paE_off HSe.out he : R = -1)
          clear he
          go_wp2
          go_ret
          exact ⟨by rw [HF.out]; rfl, bel_step hBU hBr⟩
  · have HF : Hid (R = -1) := (by rw [← HR.out]; exact paQ_no (fun h => hP h.1) : R = -1)
    go_enter Tryd.func15, Tryd.ntmps15
    go_wp2_with fail
    rw [← HW.out]
    refine (streetsOf_no _ _ _ _ _ _ _ _ _ g bs _ (hV'.bel hBW) hQ hP).mono ?_
    rintro e w1 ⟨rfl, hb1⟩
    have hB1 := bel_step hBW hb1
    clear XG
    go_wp2
    go_ret
    exact ⟨by rw [HF.out]; rfl, bel_alloc hB1 _⟩
end Go.Proofs.YtponmbjflablcaaDoor
