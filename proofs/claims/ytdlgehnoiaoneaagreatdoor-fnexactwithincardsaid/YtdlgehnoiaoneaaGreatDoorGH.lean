/-
  What turns cost, what a path takes: plain mathematics.
  What a turn costs, in the program: contracts.
-/
import Derived.Test.YtdlgehnoiaoneaaGreatDoorGF
import Derived.Test.YtdlgehnoiaoneaaGreatDoorGG
import Derived.Deep.QuietTactic
namespace Go.Proofs.YtdlgehnoiaoneaaGreatDoor
open Go.RowKit

/-- A Road by its number. -/
def rdAt (g : GraphD) (i : Nat) : RoadD := g.roads[i]?.getD default
theorem rdAt_eq {g : GraphD} {i : Nat} (h : i < g.roads.length) : rdAt g i = g.roads[i] := by simp [rdAt, h]
def spAt (g : GraphD) (i : Nat) : SpotD := g.places[i]?.getD default
theorem spAt_eq {g : GraphD} {i : Nat} (h : i < g.places.length) : spAt g i = g.places[i] := by simp [spAt, h]
/-- A Road's wind. -/
def hdR (g : GraphD) (i : Nat) : Int := headOf (spAt g (rdAt g i).fr.toNat).x (spAt g (rdAt g i).fr.toNat).y (spAt g (rdAt g i).to.toNat).x (spAt g (rdAt g i).to.toNat).y
theorem hdR_at {g : GraphD} {i p q : Nat} (hi : i < g.roads.length) (hp : p < g.places.length) (hq : q < g.places.length) (e1 : g.roads[i].fr = (p : Int)) (e2 : g.roads[i].to = (q : Int)) :
    hdR g i = headOf g.places[p].x g.places[p].y g.places[q].x g.places[q].y := by
  unfold hdR
  rw [rdAt_eq hi, e1, e2, Int.toNat_natCast, Int.toNat_natCast, spAt_eq hp, spAt_eq hq]
theorem wind_bd (x y : Int) : 0 ≤ wind x y ∧ wind x y ≤ 7 := by
  unfold wind
  repeat' split
  all_goals omega
theorem headOf_bd (a b c d : Int) : -1 ≤ headOf a b c d ∧ headOf a b c d ≤ 7 := by
  have := wind_bd (c - a) (d - b)
  unfold headOf
  split <;> omega
theorem hdR_bd (g : GraphD) (i : Nat) : -1 ≤ hdR g i ∧ hdR g i ≤ 7 := headOf_bd _ _ _ _
/-- What turning costs by the winds. -/
def wdC (a b : Int) : Int := if a < 0 ∨ b < 0 then 0 else if (b - a + 8) % 8 = 2 ∨ (b - a + 8) % 8 = 3 ∨ (b - a + 8) % 8 = 4 then 5 else if (b - a + 8) % 8 = 5 ∨ (b - a + 8) % 8 = 6 then 3 else 0
theorem wdC_no {a b : Int} (h : a < 0 ∨ b < 0) : wdC a b = 0 := if_pos h
theorem wdC_5 {a b : Int} (h : ¬ (a < 0 ∨ b < 0)) (h2 : (b - a + 8) % 8 = 2 ∨ (b - a + 8) % 8 = 3 ∨ (b - a + 8) % 8 = 4) : wdC a b = 5 := by unfold wdC; rw [if_neg h, if_pos h2]
theorem wdC_3 {a b : Int} (h : ¬ (a < 0 ∨ b < 0)) (h2 : (b - a + 8) % 8 = 5 ∨ (b - a + 8) % 8 = 6) : wdC a b = 3 := by unfold wdC; rw [if_neg h, if_neg (by omega), if_pos h2]
theorem wdC_0 {a b : Int} (h : ¬ (a < 0 ∨ b < 0)) (h2 : (b - a + 8) % 8 = 0 ∨ (b - a + 8) % 8 = 1 ∨ (b - a + 8) % 8 = 7) : wdC a b = 0 := by unfold wdC; rw [if_neg h, if_neg (by omega), if_neg (by omega)]
theorem wdC_bd (a b : Int) : 0 ≤ wdC a b ∧ wdC a b ≤ 5 := by unfold wdC; repeat' split; all_goals omega
/-- What a turn costs if it may be taken. -/
def tnC (g : GraphD) (i j : Nat) : Int := if (rdAt g j).to = (rdAt g i).fr then 20 else wdC (hdR g i) (hdR g j)
theorem tnC_back {g : GraphD} {i j : Nat} (h : (rdAt g j).to = (rdAt g i).fr) : tnC g i j = 20 := if_pos h
theorem tnC_on {g : GraphD} {i j : Nat} (h : ¬ (rdAt g j).to = (rdAt g i).fr) : tnC g i j = wdC (hdR g i) (hdR g j) := if_neg h
theorem tnC_bd (g : GraphD) (i j : Nat) : 0 ≤ tnC g i j ∧ tnC g i j ≤ 20 := by
  have := wdC_bd (hdR g i) (hdR g j)
  unfold tnC
  split <;> omega
/-- What a turn between Roads that meet costs; -1: it is forbidden. -/
noncomputable def tnB (g : GraphD) (i j : Nat) : Int := if bP (inL g.bans (i : Int) (j : Int)) = true then -1 else tnC g i j
theorem tnB_ban {g : GraphD} {i j : Nat} (h : bP (inL g.bans (i : Int) (j : Int)) = true) : tnB g i j = -1 := if_pos h
theorem tnB_ok {g : GraphD} {i j : Nat} (h : bP (inL g.bans (i : Int) (j : Int)) = false) : tnB g i j = tnC g i j := if_neg (by rw [h]; decide)
theorem tnB_bd (g : GraphD) (i j : Nat) : -1 ≤ tnB g i j ∧ tnB g i j ≤ 20 := by
  have := tnC_bd g i j
  unfold tnB
  split <;> omega
end Go.Proofs.YtdlgehnoiaoneaaGreatDoor

namespace Go.Proofs.YtdlgehnoiaoneaaGreatDoor
open Go.RowKit Go.Maps

/-- A row in which the winds of the first k Roads stand. -/
structure Wnd (w : World) (B n k : Nat) (g : GraphD) : Prop where
  lt : B < w.heap.size
  done : ∀ i, i < k → w.cell? ⟨B, i, none⟩ = some (.int .i64 (hdR g i))
  there : ∀ i, i < n → ∃ u, w.cell? ⟨B, i, none⟩ = some u
  free : ∀ i, w.frozen? ⟨B, i, none⟩ = false
theorem Wnd.bel {w w' : World} {B n k : Nat} {g : GraphD} (h : Wnd w B n k g) (hb : Bel w w') : Wnd w' B n k g :=
  ⟨bel_lt hb h.lt, fun i hi => bel_cellM hb h.lt (h.done i hi), fun i hi => by obtain ⟨u, hu⟩ := h.there i hi; exact ⟨u, bel_cellM hb h.lt hu⟩, fun i => by rw [hb.out.frozen (p := ⟨B, i, none⟩) h.lt]; exact h.free i⟩
theorem Wnd.frx {X : Nat → Prop} {w w' : World} {B n k : Nat} {g : GraphD} (h : Wnd w B n k g) (hb : Frx X w w') (hx : X B) : Wnd w' B n k g := by
  have e := hb.block B h.lt hx
  exact ⟨Nat.lt_of_lt_of_le h.lt hb.size, fun i hi => by rw [World.cell?_of_block e]; exact h.done i hi, fun i hi => by rw [World.cell?_of_block e]; exact h.there i hi, fun i => by rw [World.frozen?_of_block e]; exact h.free i⟩
theorem Wnd.put {w : World} {B n k : Nat} {g : GraphD} (h : Wnd w B n k g) (hk : k < n) : Wnd (w.setCell ⟨B, k, none⟩ (.int .i64 (hdR g k))) B n (k + 1) g := by
  refine ⟨by simpa [World.setCell] using h.lt, fun i hi => ?_, fun i hi => ?_, fun i => by rw [World.frozen?_setCell]; exact h.free i⟩
  · by_cases e : i = k
    · subst e
      obtain ⟨u, hu⟩ := h.there i hk
      exact World.cell?_setCell_same _ _ _ hu
    · rw [World.cell?_setCell_other _ _ _ _ (fun e2 => e (by have := congrArg Addr.off e2; simpa using this.symm))]
      exact h.done i (by omega)
  · by_cases e : i = k
    · subst e
      obtain ⟨u, hu⟩ := h.there i hk
      exact ⟨_, World.cell?_setCell_same _ _ _ hu⟩
    · rw [World.cell?_setCell_other _ _ _ _ (fun e2 => e (by have := congrArg Addr.off e2; simpa using this.symm))]
      exact h.there i hi
theorem Wnd.new (w : World) (n : Nat) (t : TypeId) (g : GraphD) : Wnd (w.alloc (.cells (madeCells #[.int .i64 0] n) t)) w.heap.size n 0 g := by
  have h := heap_alloc_new w (.cells (madeCells #[.int .i64 0] n) t)
  refine ⟨by simp, fun i hi => by omega, fun i hi => ⟨.int .i64 0, ?_⟩, fun i => by simp only [World.frozen?, h]; rfl⟩
  simp only [World.cell?, h]
  rw [← Array.getElem?_toList, toList_madeCells_one]
  simp [hi]

set_option maxRecDepth 100000 in
set_option maxHeartbeats 2000000 in
theorem turning_any (a0 : Option Addr) (k0 c0 : Nat) (a1 : Option Addr) (n1 c1 : Nat) (a2 : Option Addr) (k2 c2 : Nat) (a3 : Option Addr) (k3 c3 : Nat) (a4 : Option Addr) (k4 c4 : Nat) (m5 : Option Nat) (Wd : Nat) (g : GraphD) (b1 : List Nat) (i j : Nat) (w : World) (t1 : RoadL w a1 g.roads b1) (e1 : g.roads.length = n1) (hi : i < n1) (hj : j < n1) (hW : Wnd w Wd n1 n1 g) :
    Calls Tryz.prog 107 #[.agg #[.slice a0 k0 c0, .slice a1 n1 c1, .slice a2 k2 c2, .slice a3 k3 c3, .slice a4 k4 c4, .map m5, .slice (some ⟨Wd, 0, none⟩) n1 n1], .agg #[.int .i64 (i : Int), .int .i64 (j : Int)]] w fun e w' => e = .returned (.int .i64 (tnC g i j)) ∧ Bel w w' := by
  have H1 : Hid (g.roads.length = n1) := e1
  have hil : i < g.roads.length := by rw [e1]; exact hi
  have hjl : j < g.roads.length := by rw [e1]; exact hj
  obtain ⟨b, off, f, rfl, hb, hx⟩ := t1.out hil
  obtain ⟨_, _, _, _, _, _, _, yi, _⟩ := hx i hil
  obtain ⟨_, _, _, _, _, _, _, _, yj, _⟩ := hx j hjl
  obtain ⟨P, HP⟩ : ∃ P, Hid (P = (rdAt g i).fr) := ⟨_, (rfl : (rdAt g i).fr = _)⟩
  obtain ⟨Q, HQ⟩ : ∃ Q, Hid (Q = (rdAt g j).to) := ⟨_, (rfl : (rdAt g j).to = _)⟩
  obtain ⟨A, HA⟩ : ∃ A, Hid (A = hdR g i) := ⟨_, (rfl : hdR g i = _)⟩
  obtain ⟨B, HB⟩ : ∃ B, Hid (B = hdR g j) := ⟨_, (rfl : hdR g j = _)⟩
  rw [show g.roads[i].fr = P by rw [HP.out, rdAt_eq hil]] at yi
  rw [show g.roads[j].to = Q by rw [HQ.out, rdAt_eq hjl]] at yj
  have wi := hW.done i hi
  have wj := hW.done j hj
  rw [← HA.out] at wi
  rw [← HB.out] at wj
  have hA := hdR_bd g i
  have hBd := hdR_bd g j
  rw [← HA.out] at hA
  rw [← HB.out] at hBd
  obtain ⟨hA0, hA1⟩ := hA
  obtain ⟨hB0, hB1⟩ := hBd
  have hWl := hW.lt
  obtain ⟨W, HW⟩ : ∃ W, Hid (W = (w.alloc (.cells #[.slice a0 k0 c0, .slice (some ⟨b, off, none⟩) n1 c1, .slice a2 k2 c2, .slice a3 k3 c3, .slice a4 k4 c4, .map m5, .slice (some ⟨Wd, 0, none⟩) n1 n1] 91)).alloc (.cells #[.int .i64 (i : Int), .int .i64 (j : Int)] 73)) := ⟨_, (rfl : (w.alloc (.cells #[.slice a0 k0 c0, .slice (some ⟨b, off, none⟩) n1 c1, .slice a2 k2 c2, .slice a3 k3 c3, .slice a4 k4 c4, .map m5, .slice (some ⟨Wd, 0, none⟩) n1 n1] 91)).alloc (.cells #[.int .i64 (i : Int), .int .i64 (j : Int)] 73) = _)⟩
  have hBW : Bel w W := by rw [HW.out]; exact bel_alloc (bel_alloc (Bel.refl _) _) _
  have XN : Blk W w.heap.size [.slice a0 k0 c0, .slice (some ⟨b, off, none⟩) n1 c1, .slice a2 k2 c2, .slice a3 k3 c3, .slice a4 k4 c4, .map m5, .slice (some ⟨Wd, 0, none⟩) n1 n1] := by rw [HW.out]; exact (Blk.new w [.slice a0 k0 c0, .slice (some ⟨b, off, none⟩) n1 c1, .slice a2 k2 c2, .slice a3 k3 c3, .slice a4 k4 c4, .map m5, .slice (some ⟨Wd, 0, none⟩) n1 n1] _).bel (bel_alloc (Bel.refl _) _)
  have XB : Blk W (w.heap.size + 1) [.int .i64 (i : Int), .int .i64 (j : Int)] := by rw [HW.out]; exact Blk.new1 w _ [.int .i64 (i : Int), .int .i64 (j : Int)] _
  have x1 : W.cell? ⟨w.heap.size, 1, none⟩ = some (.slice (some ⟨b, off, none⟩) n1 c1) := XN.cell 1 (by simp)
  have x6 : W.cell? ⟨w.heap.size, 6, none⟩ = some (.slice (some ⟨Wd, 0, none⟩) n1 n1) := XN.cell 6 (by simp)
  have z0 : W.cell? ⟨w.heap.size + 1, 0, none⟩ = some (.int .i64 (i : Int)) := XB.cell 0 (by simp)
  have z1 : W.cell? ⟨w.heap.size + 1, 1, none⟩ = some (.int .i64 (j : Int)) := XB.cell 1 (by simp)
  have yiW := bel_cellM hBW hb yi
  have yjW := bel_cellM hBW hb yj
  have wiW := bel_cellM hBW hWl wi
  have wjW := bel_cellM hBW hWl wj
  have hiI : (i : Int) < (n1 : Int) := by omega
  have hjI : (j : Int) < (n1 : Int) := by omega
  clear hx yi yj wi wj hW e1 t1 XN XB
  obtain ⟨R, HRR⟩ : ∃ R, Hid (tnC g i j = R) := ⟨_, (rfl : tnC g i j = _)⟩
  rw [HRR.out]
  by_cases he : Q = P
  · have hE : (Q == P) = true := by simp [he]
    have HR : Hid (R = 20) := by rw [← HRR.out]; exact tnC_back (by rw [← HP.out, ← HQ.out]; exact he)
    clear he
    go_enter Tryz.func107, Tryz.ntmps107
    go_wp2
    rw [← HW.out]
    go_quiet (fail)
    go_wp2
    go_ret
    exact ⟨by rw [HR.out]; rfl, bel_drewN hBW _⟩
  · have hE : (Q == P) = false := by simp [he]
    have HR : Hid (R = wdC A B) := by rw [← HRR.out, HA.out, HB.out]; exact tnC_on (by rw [← HP.out, ← HQ.out]; exact he)
    clear he
    go_enter Tryz.func107, Tryz.ntmps107
    go_wp2
    rw [← HW.out]
    go_quiet (fail)
    go_wp2
    go_quiet (fail)
    by_cases hAn : A < 0
    · have hAb : decide (A < 0) = true := by simp [hAn]
      have HF : Hid (R = _) := HR.out.trans (wdC_no (.inl hAn))
      go_wp2
      go_ret
      exact ⟨by rw [HF.out]; rfl, bel_drewN hBW _⟩
    have hAb : decide (A < 0) = false := by simp; omega
    by_cases hBn : B < 0
    · have hBb : decide (B < 0) = true := by simp [hBn]
      have HF : Hid (R = _) := HR.out.trans (wdC_no (.inr hBn))
      go_wp2
      go_ret
      exact ⟨by rw [HF.out]; rfl, bel_drewN hBW _⟩
    have hBb : decide (B < 0) = false := by simp; omega
    have hn : ¬ (A < 0 ∨ B < 0) := by omega
    have hcs : (B - A + 8) % 8 = 0 ∨ (B - A + 8) % 8 = 1 ∨ (B - A + 8) % 8 = 2 ∨ (B - A + 8) % 8 = 3 ∨ (B - A + 8) % 8 = 4 ∨ (B - A + 8) % 8 = 5 ∨ (B - A + 8) % 8 = 6 ∨ (B - A + 8) % 8 = 7 := by omega
    have htm : ∀ k, (B - A + 8) % 8 = k → Int.tmod (B - A + 8) 8 = k := fun k h => by rw [Int.tmod_eq_emod_of_nonneg (by omega)]; exact h
    rcases hcs with hc | hc | hc | hc | hc | hc | hc | hc
    · have ht := htm _ hc
      have HF : Hid (R = _) := HR.out.trans (wdC_0 hn (.inl hc))
      clear hc htm
      go_wp2
      go_ret
      exact ⟨by rw [HF.out]; rfl, bel_drewN hBW _⟩
    · have ht := htm _ hc
      have HF : Hid (R = _) := HR.out.trans (wdC_0 hn (.inr (.inl hc)))
      clear hc htm
      go_wp2
      go_ret
      exact ⟨by rw [HF.out]; rfl, bel_drewN hBW _⟩
    · have ht := htm _ hc
      have HF : Hid (R = _) := HR.out.trans (wdC_5 hn (.inl hc))
      clear hc htm
      go_wp2
      go_ret
      exact ⟨by rw [HF.out]; rfl, bel_drewN hBW _⟩
    · have ht := htm _ hc
      have HF : Hid (R = _) := HR.out.trans (wdC_5 hn (.inr (.inl hc)))
      clear hc htm
      go_wp2
      go_ret
      exact ⟨by rw [HF.out]; rfl, bel_drewN hBW _⟩
    · have ht := htm _ hc
      have HF : Hid (R = _) := HR.out.trans (wdC_5 hn (.inr (.inr hc)))
      clear hc htm
      go_wp2
      go_ret
      exact ⟨by rw [HF.out]; rfl, bel_drewN hBW _⟩
    · have ht := htm _ hc
      have HF : Hid (R = _) := HR.out.trans (wdC_3 hn (.inl hc))
      clear hc htm
      go_wp2
      go_ret
      exact ⟨by rw [HF.out]; rfl, bel_drewN hBW _⟩
    · have ht := htm _ hc
      have HF : Hid (R = _) := HR.out.trans (wdC_3 hn (.inr hc))
      clear hc htm
      go_wp2
      go_ret
      exact ⟨by rw [HF.out]; rfl, bel_drewN hBW _⟩
    · have ht := htm _ hc
      have HF : Hid (R = _) := HR.out.trans (wdC_0 hn (.inr (.inr hc)))
      clear hc htm
      go_wp2
      go_ret
      exact ⟨by rw [HF.out]; rfl, bel_drewN hBW _⟩
end Go.Proofs.YtdlgehnoiaoneaaGreatDoor
