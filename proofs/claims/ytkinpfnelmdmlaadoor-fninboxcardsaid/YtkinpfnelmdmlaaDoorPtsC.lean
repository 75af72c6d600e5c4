/-
  Rows of points in memory: how they are read, copied and held against each other. For every row of at most 2 to the 20th points.
-/
import Derived.Test.YtkinpfnelmdmlaaDoorTurnC
import Derived.Deep.SlicePairs
import Derived.Deep.LoopGhost
namespace Go.Proofs.YtkinpfnelmdmlaaDoor
open Go.RowKit

/-- The slice (a, n) holds the points (X i, Y i). -/
def Pts (w : World) (a : Option Addr) (n : Nat) (X Y : Nat → Int) : Prop :=
  n = 0 ∨ ∃ b off, a = some ⟨b, off, none⟩ ∧ b < w.heap.size ∧ ∀ i, i < n → w.cell? ⟨b, off + i * 2, none⟩ = some (.int .i64 (X i)) ∧ w.cell? ⟨b, off + i * 2 + 1, none⟩ = some (.int .i64 (Y i))

theorem Pts.bel {w w' : World} {a : Option Addr} {n : Nat} {X Y : Nat → Int} (h : Pts w a n X Y) (hb : Bel w w') : Pts w' a n X Y := by
  rcases h with h | ⟨b, off, h1, h2, h3⟩
  · exact .inl h
  · exact .inr ⟨b, off, h1, bel_lt hb h2, fun i hi => ⟨by rw [hb.out.cell (p := ⟨b, _, none⟩) h2]; exact (h3 i hi).1, by rw [hb.out.cell (p := ⟨b, _, none⟩) h2]; exact (h3 i hi).2⟩⟩

theorem setc_other {w : World} {B i j : Nat} {v : Value} (h : i ≠ j) : (w.setCell ⟨B, i, none⟩ v).cell? ⟨B, j, none⟩ = w.cell? ⟨B, j, none⟩ :=
  World.cell?_setCell_other _ _ _ _ (fun e => h (congrArg Addr.off e))
theorem setc_same {w : World} {p : Addr} {v u : Value} (h : w.cell? p = some u) : (w.setCell p v).cell? p = some v := World.cell?_setCell_same _ _ _ h

/-- A block of the call's own: room for n points, of which the first k are laid. -/
structure Row (w : World) (B n k : Nat) (X Y : Nat → Int) : Prop where
  lt : B < w.heap.size
  laid : ∀ i, i < k → w.cell? ⟨B, i * 2, none⟩ = some (.int .i64 (X i)) ∧ w.cell? ⟨B, i * 2 + 1, none⟩ = some (.int .i64 (Y i))
  there : ∀ j, j < n * 2 → ∃ v, w.cell? ⟨B, j, none⟩ = some v
  free : ∀ j, w.frozen? ⟨B, j, none⟩ = false

theorem Row.bel {w w' : World} {B n k : Nat} {X Y : Nat → Int} (h : Row w B n k X Y) (hb : Bel w w') : Row w' B n k X Y :=
  ⟨bel_lt hb h.lt, fun i hi => ⟨by rw [hb.out.cell (p := ⟨B, _, none⟩) h.lt]; exact (h.laid i hi).1, by rw [hb.out.cell (p := ⟨B, _, none⟩) h.lt]; exact (h.laid i hi).2⟩,
    fun j hj => by rw [hb.out.cell (p := ⟨B, _, none⟩) h.lt]; exact h.there j hj, fun j => by rw [hb.out.frozen (p := ⟨B, _, none⟩) h.lt]; exact h.free j⟩

theorem Row.put {w : World} {B n k : Nat} {X Y : Nat → Int} (h : Row w B n k X Y) (hk : k < n) :
    Row ((w.setCell ⟨B, k * 2, none⟩ (.int .i64 (X k))).setCell ⟨B, k * 2 + 1, none⟩ (.int .i64 (Y k))) B n (k + 1) X Y := by
  obtain ⟨v0, c0⟩ := h.there (k * 2) (by omega)
  obtain ⟨v1, c1⟩ := h.there (k * 2 + 1) (by omega)
  refine ⟨by simpa [World.setCell] using h.lt, ?_, ?_, fun j => by rw [World.frozen?_setCell, World.frozen?_setCell]; exact h.free j⟩
  · intro i hi
    by_cases e : i = k
    · subst e
      refine ⟨?_, ?_⟩
      · rw [setc_other (by omega), setc_same c0]
      · rw [setc_same (u := v1) (by rw [setc_other (by omega)]; exact c1)]
    · have hi' : i < k := by omega
      refine ⟨?_, ?_⟩
      · rw [setc_other (by omega), setc_other (by omega)]; exact (h.laid i hi').1
      · rw [setc_other (by omega), setc_other (by omega)]; exact (h.laid i hi').2
  · intro j hj
    by_cases e1 : j = k * 2 + 1
    · subst e1; exact ⟨_, setc_same (u := v1) (by rw [setc_other (by omega)]; exact c1)⟩
    · rw [setc_other (by omega)]
      by_cases e0 : j = k * 2
      · subst e0; exact ⟨_, setc_same c0⟩
      · rw [setc_other (by omega)]; exact h.there j hj

theorem Row.pts {w : World} {B n : Nat} {X Y : Nat → Int} (h : Row w B n n X Y) : Pts w (some ⟨B, 0, none⟩) n X Y :=
  .inr ⟨B, 0, rfl, h.lt, fun i hi => by simpa using h.laid i hi⟩

theorem Row.start (w : World) (zs : Array Value) (n : Nat) (e : TypeId) (X Y : Nat → Int) : Row (w.alloc (.cells (madeCells zs (n * 2)) e)) w.heap.size n 0 X Y := by
  refine ⟨by simp, fun i hi => absurd hi (Nat.not_lt_zero _), fun j hj => ?_, fun j => by simp⟩
  have hj' : j < (madeCells zs (n * 2)).size := by rw [size_madeCells]; exact hj
  exact ⟨_, by rw [World.cell?_alloc_new, Array.getElem?_eq_getElem hj']⟩

theorem zeroP : Tryd.prog.info? 26 = some ((Tryd.prog.info? 26).get (by kernel_rfl)) := by kernel_rfl

theorem bel_cell {W w' : World} (h : Bel W w') {b o : Nat} {v : Value} (hb : b < W.heap.size) (hc : W.cell? ⟨b, o, none⟩ = some v) : w'.cell? ⟨b, o, none⟩ = some v := by
  rw [h.out.cell (p := ⟨b, o, none⟩) hb]; exact hc

def rowB (n : Nat) (X Y : Nat → Int) : Bool := decide (n ≤ 2000) && (List.range n).all fun i => pok (X i) (Y i)
theorem rowB_true {n : Nat} {X Y : Nat → Int} (h : n ≤ 2000) (hp : ∀ i, i < n → pok (X i) (Y i) = true) : rowB n X Y = true := by
  simp only [rowB, Bool.and_eq_true, decide_eq_true_eq, List.all_eq_true, List.mem_range]
  exact ⟨h, hp⟩
theorem rowB_out {n : Nat} {X Y : Nat → Int} (h : rowB n X Y = true) : n ≤ 2000 ∧ ∀ i, i < n → POk (X i) (Y i) := by
  simp only [rowB, Bool.and_eq_true, decide_eq_true_eq, List.all_eq_true, List.mem_range] at h
  exact ⟨h.1, fun i hi => pOk_iff.1 (h.2 i hi)⟩
theorem rowB_big {n : Nat} {X Y : Nat → Int} (h : 2000 < n) : rowB n X Y = false := by
  simp [rowB, show ¬ n ≤ 2000 by omega]
theorem rowB_at {n k : Nat} {X Y : Nat → Int} (h : k < n) (hp : pok (X k) (Y k) = false) : rowB n X Y = false := by
  cases e : rowB n X Y with
  | false => rfl
  | true => have := pOk_iff.2 ((rowB_out e).2 k h); rw [hp] at this; cases this

theorem rowOk_any (a : Option Addr) (n c : Nat) (X Y : Nat → Int) (w : World) (hP : Pts w a n X Y) (hn : n ≤ 1048576) :
    Calls Tryd.prog 19 #[.slice a n c] w fun e w' => e = .returned (.bool (rowB n X Y)) ∧ Bel w w' := by
  by_cases hbig : 2000 < n
  · rw [rowB_big hbig]
    go_enter Tryd.func19, Tryd.ntmps19
    go_wp2
    go_ret
    exact ⟨rfl, Bel.refl _⟩
  · have hbig : n ≤ 2000 := by omega
    go_enter Tryd.func19, Tryd.ntmps19
    go_wp2
    go_loopw [10] (fun i wr => ∃ k : Nat, k ≤ n ∧ i = .int .i64 k ∧ (∀ j, j < k → pok (X j) (Y j) = true) ∧ Bel w wr) (fun i _ => n - (intOf i).toNat)
    case atStart => exact ⟨0, Nat.zero_le _, rfl, fun j hj => absurd hj (Nat.not_lt_zero _), Bel.refl _⟩
    case round =>
      obtain ⟨k, hk, rfl, hall, hbel⟩ := hrel
      by_cases hlt : k < n
      · rcases hP.bel hbel with h | ⟨b, off, rfl, h2, h3⟩
        · omega
        · obtain ⟨cx, cy⟩ := h3 k hlt
          have H : Hid (∀ j, j < k → pok (X j) (Y j) = true) := hall
          clear h3 hall
          by_cases hp : pok (X k) (Y k) = true
          · go_wp2_with fail
            refine (pointOk_any _ _ _).mono ?_
            rintro e w1 ⟨rfl, hb1⟩
            have hB1 : Bel w w1 := bel_step (bel_alloc hbel _) hb1
            clear cx cy h2 hb1 hbel
            go_wp2
            go_roundw
            case rel => exact ⟨k + 1, by omega, by go_num, fun j hj => by (by_cases e : j = k); (subst e; exact hp); exact H.out j (by omega), hB1⟩
            case measure => simp [intOf]; omega
          · have hp : pok (X k) (Y k) = false := by simpa using hp
            have HF : Hid (false = rowB n X Y) := (rowB_at hlt hp).symm
            go_wp2_with fail
            refine (pointOk_any _ _ _).mono ?_
            rintro e w1 ⟨rfl, hb1⟩
            have hB1 : Bel w w1 := bel_step (bel_alloc hbel _) hb1
            clear cx cy h2 hb1 hbel
            go_wp2
            go_ret
            exact ⟨congrArg (fun b => Ending.returned (.bool b)) HF.out, hB1⟩
      · have e : k = n := by omega
        subst e
        have HT : Hid (true = rowB k X Y) := (rowB_true hbig hall).symm
        clear hall
        go_wp2
        go_ret
        exact ⟨congrArg (fun b => Ending.returned (.bool b)) HT.out, hbel⟩

theorem specRowOk_any (a : Option Addr) (n c : Nat) (X Y : Nat → Int) (w : World) (hP : Pts w a n X Y) (hn : n ≤ 1048576) :
    Calls Tryd.prog 30 #[.slice a n c] w fun e w' => e = .returned (.bool (rowB n X Y)) ∧ Bel w w' := by
  by_cases hbig : 2000 < n
  · rw [rowB_big hbig]
    have hd : decide ((n : Int) ≤ 2000) = false := by simp; omega
    have hd' : decide ((0 : Int) < n) = true := by simp; omega
    go_enter Tryd.func30, Tryd.ntmps30
    go_wp2
    go_loopw [3] (fun i wr => i = .int .i64 0 ∧ wr = w) (fun _ _ => 0)
    case atStart => exact ⟨rfl, rfl⟩
    case round =>
      obtain ⟨rfl, rfl⟩ := hrel
      go_wp2
      go_ret
      exact ⟨rfl, Bel.refl _⟩
  · have hbig : n ≤ 2000 := by omega
    go_enter Tryd.func30, Tryd.ntmps30
    go_wp2
    go_loopw [3] (fun i wr => ∃ k : Nat, k ≤ n ∧ i = .int .i64 k ∧ (∀ j, j < k → pok (X j) (Y j) = true) ∧ Bel w wr) (fun i _ => n - (intOf i).toNat)
    case atStart => exact ⟨0, Nat.zero_le _, rfl, fun j hj => absurd hj (Nat.not_lt_zero _), Bel.refl _⟩
    case round =>
      obtain ⟨k, hk, rfl, hall, hbel⟩ := hrel
      by_cases hlt : k < n
      · rcases hP.bel hbel with h | ⟨b, off, rfl, h2, h3⟩
        · omega
        · obtain ⟨cx, cy⟩ := h3 k hlt
          have H : Hid (∀ j, j < k → pok (X j) (Y j) = true) := hall
          clear h3 hall
          by_cases hp : pok (X k) (Y k) = true
          · go_wp2_with fail
            refine (specPointOk_any _ _ _).mono ?_
            rintro e w1 ⟨rfl, hb1⟩
            have hB1 : Bel w w1 := bel_step hbel hb1
            clear cx cy h2 hb1 hbel
            go_wp2
            go_roundw
            case rel => exact ⟨k + 1, by omega, by go_num, fun j hj => by (by_cases e : j = k); (subst e; exact hp); exact H.out j (by omega), hB1⟩
            case measure => simp [intOf]; omega
          · have hp : pok (X k) (Y k) = false := by simpa using hp
            have HF : Hid (false = rowB n X Y) := (rowB_at hlt hp).symm
            go_wp2_with fail
            refine (specPointOk_any _ _ _).mono ?_
            rintro e w1 ⟨rfl, hb1⟩
            have hB1 : Bel w w1 := bel_step hbel hb1
            clear cx cy h2 hb1 hbel
            go_wp2
            go_ret
            exact ⟨congrArg (fun b => Ending.returned (.bool b)) HF.out, hB1⟩
      · have e : k = n := by omega
        subst e
        have HT : Hid (true = rowB k X Y) := (rowB_true hbig hall).symm
        clear hall
        go_wp2
        go_ret
        exact ⟨congrArg (fun b => Ending.returned (.bool b)) (by rw [← HT.out]; simp; omega), hbel⟩
end Go.Proofs.YtkinpfnelmdmlaaDoor
