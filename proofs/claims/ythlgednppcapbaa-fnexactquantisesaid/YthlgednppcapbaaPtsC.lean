/-
  Rows of points in memory: how they are read, copied and held against each other. For every row of at most 2 to the 20th points.
-/
import Derived.Test.YthlgednppcapbaaTurnC
import Derived.Deep.SlicePairs
import Derived.Deep.LoopGhost
namespace Go.Proofs.Ythlgednppcapbaa
open Go.RowKit

/-- The slice (a, n) holds the points (X i, Y i). -/
def Pts (w : World) (a : Option Addr) (n : Nat) (X Y : Nat → Int) : Prop :=
  n = 0 ∨ ∃ b off, a = some ⟨b, off, none⟩ ∧ b < w.heap.size ∧ ∀ i, i < n → w.cell? ⟨b, off + i * 2, none⟩ = some (.int .i64 (X i)) ∧ w.cell? ⟨b, off + i * 2 + 1, none⟩ = some (.int .i64 (Y i))

theorem Pts.bel {w w' : World} {a : Option Addr} {n : Nat} {X Y : Nat → Int} (h : Pts w a n X Y) (hb : Bel w w') : Pts w' a n X Y := by
  rcases h with h | ⟨b, off, h1, h2, h3⟩
  · exact .inl h
  · exact .inr ⟨b, off, h1, bel_lt hb h2, fun i hi => ⟨by rw [hb.out.cell (p := ⟨b, _, none⟩) h2]; exact (h3 i hi).1, by rw [hb.out.cell (p := ⟨b, _, none⟩) h2]; exact (h3 i hi).2⟩⟩

theorem setc_other {w : World} {B i j : Nat} {v : Value} (h : i ≠ j) : (w.setCell ⟨B, i, none⟩ v).cell? ⟨B, j, none⟩ = w.cell? ⟨B, j, none⟩ :=
  World.cell?_setCell_other _ _ _ _ (fun e => h (congrArg Addr.off e))
theorem setc_same {w : World} {p : Addr} {v u : Value} (h : w.cell? p = some u) : (w.setCell p v).cell? p = some v := World.cell?_setCell_same _ _ _ h

/-- A block of the call's own: room for n points, of which the first k are laid. -/
structure Row (w : World) (B n k : Nat) (X Y : Nat → Int) : Prop where
  lt : B < w.heap.size
  laid : ∀ i, i < k → w.cell? ⟨B, i * 2, none⟩ = some (.int .i64 (X i)) ∧ w.cell? ⟨B, i * 2 + 1, none⟩ = some (.int .i64 (Y i))
  there : ∀ j, j < n * 2 → ∃ v, w.cell? ⟨B, j, none⟩ = some v
  free : ∀ j, w.frozen? ⟨B, j, none⟩ = false

theorem Row.bel {w w' : World} {B n k : Nat} {X Y : Nat → Int} (h : Row w B n k X Y) (hb : Bel w w') : Row w' B n k X Y :=
  ⟨bel_lt hb h.lt, fun i hi => ⟨by rw [hb.out.cell (p := ⟨B, _, none⟩) h.lt]; exact (h.laid i hi).1, by rw [hb.out.cell (p := ⟨B, _, none⟩) h.lt]; exact (h.laid i hi).2⟩,
    fun j hj => by rw [hb.out.cell (p := ⟨B, _, none⟩) h.lt]; exact h.there j hj, fun j => by rw [hb.out.frozen (p := ⟨B, _, none⟩) h.lt]; exact h.free j⟩

theorem Row.put {w : World} {B n k : Nat} {X Y : Nat → Int} (h : Row w B n k X Y) (hk : k < n) :
    Row ((w.setCell ⟨B, k * 2, none⟩ (.int .i64 (X k))).setCell ⟨B, k * 2 + 1, none⟩ (.int .i64 (Y k))) B n (k + 1) X Y := by
  obtain ⟨v0, c0⟩ := h.there (k * 2) (by omega)
  obtain ⟨v1, c1⟩ := h.there (k * 2 + 1) (by omega)
  refine ⟨by simpa [World.setCell] using h.lt, ?_, ?_, fun j => by rw [World.frozen?_setCell, World.frozen?_setCell]; exact h.free j⟩
  · intro i hi
    by_cases e : i = k
    · subst e
      refine ⟨?_, ?_⟩
      · rw [setc_other (by omega), setc_same c0]
      · rw [setc_same (u := v1) (by rw [setc_other (by omega)]; exact c1)]
    · have hi' : i < k := by omega
      refine ⟨?_, ?_⟩
      · rw [setc_other (by omega), setc_other (by omega)]; exact (h.laid i hi').1
      · rw [setc_other (by omega), setc_other (by omega)]; exact (h.laid i hi').2
  · intro j hj
    by_cases e1 : j = k * 2 + 1
    · subst e1; exact ⟨_, setc_same (u := v1) (by rw [setc_other (by omega)]; exact c1)⟩
    · rw [setc_other (by omega)]
      by_cases e0 : j = k * 2
      · subst e0; exact ⟨_, setc_same c0⟩
      · rw [setc_other (by omega)]; exact h.there j hj

theorem Row.pts {w : World} {B n : Nat} {X Y : Nat → Int} (h : Row w B n n X Y) : Pts w (some ⟨B, 0, none⟩) n X Y :=
  .inr ⟨B, 0, rfl, h.lt, fun i hi => by simpa using h.laid i hi⟩

theorem Row.start (w : World) (zs : Array Value) (n : Nat) (e : TypeId) (X Y : Nat → Int) : Row (w.alloc (.cells (madeCells zs (n * 2)) e)) w.heap.size n 0 X Y := by
  refine ⟨by simp, fun i hi => absurd hi (Nat.not_lt_zero _), fun j hj => ?_, fun j => by simp⟩
  have hj' : j < (madeCells zs (n * 2)).size := by rw [size_madeCells]; exact hj
  exact ⟨_, by rw [World.cell?_alloc_new, Array.getElem?_eq_getElem hj']⟩

theorem zeroP : Try.prog.info? 29 = some ((Try.prog.info? 29).get (by kernel_rfl)) := by kernel_rfl

set_option maxRecDepth 100000 in
theorem toPointS_any (a : Option Addr) (n c : Nat) (X Y : Nat → Int) (w : World) (hP : Pts w a n X Y) (hn : n ≤ 1048576) :
    Calls Try.prog 22 #[.slice a n c] w fun e w' => e = .returned (.slice (some ⟨w.heap.size, 0, none⟩) n n) ∧ Row w' w.heap.size n n X Y ∧ Bel w w' := by
  have hmk : ∀ w : World, (Instr.makeSlice 47 (.int .i64 n) (.int .i64 n)).run Try.prog w = .ok (.slice (some ⟨w.heap.size, 0, none⟩) n n) (w.alloc (.cells (madeCells #[.int .i64 0, .int .i64 0] (n * 2)) 29)) := fun w => by
    have := run_make (P := Try.prog) w 47 29 _ (.agg #[.int .i64 0, .int .i64 0]) Try.underlying47 zeroP (by kernel_rfl) .i64 .i64 n n (by omega) (by omega) (by show (16 : Int) * n ≤ _; omega) (by omega)
    exact this
  go_enter Try.func22, Try.ntmps22
  go_wp2
  go_loopw [4] (fun i wr => ∃ k : Nat, k ≤ n ∧ i = .int .i64 k ∧ Row wr w.heap.size n k X Y ∧ Bel w wr) (fun i _ => n - (intOf i).toNat)
  case atStart => exact ⟨0, Nat.zero_le _, rfl, Row.start _ _ _ _ _ _, bel_alloc (Bel.refl _) _⟩
  case round =>
    obtain ⟨k, hk, rfl, hrow, hbel⟩ := hrel
    by_cases hlt : k < n
    · rcases hP.bel hbel with h | ⟨b, off, rfl, h2, h3⟩
      · omega
      · obtain ⟨cx, cy⟩ := h3 k hlt
        clear h3
        go_wp2_with fail
        refine (toPoint_any _ _ _).mono ?_
        rintro e w1 ⟨rfl, hb1⟩
        have hr1 := hrow.bel hb1
        have hB1 : Bel w w1 := bel_step hbel hb1
        obtain ⟨v0, c0⟩ := hr1.there (k * 2) (by omega)
        obtain ⟨v1, c1⟩ := hr1.there (k * 2 + 1) (by omega)
        have f0 := hr1.free (k * 2)
        have f1 := hr1.free (k * 2 + 1)
        clear cx cy h2 hb1 hrow hbel
        go_wp2
        go_roundw
        case rel => exact ⟨k + 1, by omega, by go_num, hr1.put hlt, bel_set (bel_set hB1 (Nat.le_refl _) _) (Nat.le_refl _) _⟩
        case measure => simp [intOf]; omega
    · have e : k = n := by omega
      subst e
      go_wp2
      go_ret
      exact ⟨rfl, hrow, hbel⟩

theorem sz_fits (a : Option Addr) (n c : Nat) (w : World) (hn : n ≤ 1048576) :
    Calls Try.prog 20 #[.slice a n c, .int .i64 1048576] w fun e w' => e = .returned (.int .i64 (1048576 - n)) ∧ w' = w := by
  go_enter Try.func20, Try.ntmps20
  go_wp2
  go_ret
  exact ⟨rfl, rfl⟩

theorem sz_not (a : Option Addr) (n c : Nat) (w : World) (hn : 1048576 < n) (hm : n ≤ 9223372036854775807) :
    Calls Try.prog 20 #[.slice a n c, .int .i64 1048576] w fun e w' => e = .returned (.int .i64 (-1)) ∧ w' = w := by
  go_enter Try.func20, Try.ntmps20
  go_wp2
  go_ret
  exact ⟨rfl, rfl⟩

theorem eqPoint_same (x y : Int) (w : World) :
    Calls Try.prog 35 #[pt x y, pt x y] w fun e w' => e = .returned (.bool true) ∧ Bel w w' := by
  go_enter Try.func35, Try.ntmps35
  go_wp2
  go_ret
  exact ⟨rfl, bel_alloc (bel_alloc (Bel.refl _) _) _⟩

theorem bel_cell {W w' : World} (h : Bel W w') {b o : Nat} {v : Value} (hb : b < W.heap.size) (hc : W.cell? ⟨b, o, none⟩ = some v) : w'.cell? ⟨b, o, none⟩ = some v := by
  rw [h.out.cell (p := ⟨b, o, none⟩) hb]; exact hc

set_option maxHeartbeats 1000000 in
theorem eqPointS_same (a a' : Option Addr) (n c c' : Nat) (X Y : Nat → Int) (w : World) (hP : Pts w a n X Y) (hP' : Pts w a' n X Y) (hn : n ≤ 1048576) :
    Calls Try.prog 25 #[.slice a n c, .slice a' n c'] w fun e w' => e = .returned (.bool true) ∧ Bel w w' := by
  go_enter Try.func25, Try.ntmps25
  go_wp2
  go_loopw [5] (fun i wr => ∃ k : Nat, k ≤ n ∧ i = .int .i64 k ∧ Bel w wr) (fun i _ => n - (intOf i).toNat)
  case atStart => exact ⟨0, Nat.zero_le _, rfl, Bel.refl _⟩
  case round =>
    obtain ⟨k, hk, rfl, hbel⟩ := hrel
    by_cases hlt : k < n
    · rcases hP.bel hbel with h | ⟨b, off, rfl, h2, h3⟩
      · omega
      · rcases hP'.bel hbel with h | ⟨b', off', rfl, h2', h3'⟩
        · omega
        · obtain ⟨cx, cy⟩ := h3 k hlt
          obtain ⟨cx', cy'⟩ := h3' k hlt
          have hR : ∀ w', Bel wr w' → w'.cell? ⟨b, off + k * 2, none⟩ = some (.int .i64 (X k)) ∧ w'.cell? ⟨b, off + k * 2 + 1, none⟩ = some (.int .i64 (Y k)) ∧ w'.cell? ⟨b', off' + k * 2, none⟩ = some (.int .i64 (X k)) ∧ w'.cell? ⟨b', off' + k * 2 + 1, none⟩ = some (.int .i64 (Y k)) :=
            fun w' h => ⟨bel_cell h h2 cx, bel_cell h h2 cy, bel_cell h h2' cx', bel_cell h h2' cy'⟩
          have hlt' : (k : Int) < (n : Int) := by omega
          have g0 : Bel wr wr := Bel.refl _
          clear h3 h3' cx cy cx' cy' h2 h2'
          go_wp2
          go_region_held3 (fun w' => Bel wr w') (repeat (first | exact g0 | refine Bel.drew ?_ | assumption | refine bel_then (by assumption) ?_))
            (first
              | (go_at_call 35; refine (eqPoint_same _ _ _).mono ?_; rintro e w' ⟨rfl, hbk⟩))
          have hH : Bel wr w' := by assumption
          go_wp2
          go_roundw
          case rel => exact ⟨k + 1, by omega, by go_num, bel_step hbel hH⟩
          case measure => simp [intOf]; omega
    · go_wp2
      go_ret
      exact ⟨rfl, hbel⟩

/-! ### A row of points that can be -/
def rowB (n : Nat) (X Y : Nat → Int) : Bool := decide (n ≤ 2000) && (List.range n).all fun i => pok (X i) (Y i)
theorem rowB_true {n : Nat} {X Y : Nat → Int} (h : n ≤ 2000) (hp : ∀ i, i < n → pok (X i) (Y i) = true) : rowB n X Y = true := by
  simp only [rowB, Bool.and_eq_true, decide_eq_true_eq, List.all_eq_true, List.mem_range]
  exact ⟨h, hp⟩
theorem rowB_out {n : Nat} {X Y : Nat → Int} (h : rowB n X Y = true) : n ≤ 2000 ∧ ∀ i, i < n → POk (X i) (Y i) := by
  simp only [rowB, Bool.and_eq_true, decide_eq_true_eq, List.all_eq_true, List.mem_range] at h
  exact ⟨h.1, fun i hi => pOk_iff.1 (h.2 i hi)⟩
theorem rowB_big {n : Nat} {X Y : Nat → Int} (h : 2000 < n) : rowB n X Y = false := by
  simp [rowB, show ¬ n ≤ 2000 by omega]
theorem rowB_at {n k : Nat} {X Y : Nat → Int} (h : k < n) (hp : pok (X k) (Y k) = false) : rowB n X Y = false := by
  cases e : rowB n X Y with
  | false => rfl
  | true => have := pOk_iff.2 ((rowB_out e).2 k h); rw [hp] at this; cases this

theorem rowOk_any (a : Option Addr) (n c : Nat) (X Y : Nat → Int) (w : World) (hP : Pts w a n X Y) (hn : n ≤ 1048576) :
    Calls Try.prog 44 #[.slice a n c] w fun e w' => e = .returned (.bool (rowB n X Y)) ∧ Bel w w' := by
  by_cases hbig : 2000 < n
  · rw [rowB_big hbig]
    go_enter Try.func44, Try.ntmps44
    go_wp2
    go_ret
    exact ⟨rfl, Bel.refl _⟩
  · have hbig : n ≤ 2000 := by omega
    go_enter Try.func44, Try.ntmps44
    go_wp2
    go_loopw [10] (fun i wr => ∃ k : Nat, k ≤ n ∧ i = .int .i64 k ∧ (∀ j, j < k → pok (X j) (Y j) = true) ∧ Bel w wr) (fun i _ => n - (intOf i).toNat)
    case atStart => exact ⟨0, Nat.zero_le _, rfl, fun j hj => absurd hj (Nat.not_lt_zero _), Bel.refl _⟩
    case round =>
      obtain ⟨k, hk, rfl, hall, hbel⟩ := hrel
      by_cases hlt : k < n
      · rcases hP.bel hbel with h | ⟨b, off, rfl, h2, h3⟩
        · omega
        · obtain ⟨cx, cy⟩ := h3 k hlt
          have H : Hid (∀ j, j < k → pok (X j) (Y j) = true) := hall
          clear h3 hall
          by_cases hp : pok (X k) (Y k) = true
          · go_wp2_with fail
            refine (pointOk_any _ _ _).mono ?_
            rintro e w1 ⟨rfl, hb1⟩
            have hB1 : Bel w w1 := bel_step (bel_alloc hbel _) hb1
            clear cx cy h2 hb1 hbel
            go_wp2
            go_roundw
            case rel => exact ⟨k + 1, by omega, by go_num, fun j hj => by (by_cases e : j = k); (subst e; exact hp); exact H.out j (by omega), hB1⟩
            case measure => simp [intOf]; omega
          · have hp : pok (X k) (Y k) = false := by simpa using hp
            have HF : Hid (false = rowB n X Y) := (rowB_at hlt hp).symm
            go_wp2_with fail
            refine (pointOk_any _ _ _).mono ?_
            rintro e w1 ⟨rfl, hb1⟩
            have hB1 : Bel w w1 := bel_step (bel_alloc hbel _) hb1
            clear cx cy h2 hb1 hbel
            go_wp2
            go_ret
            exact ⟨congrArg (fun b => Ending.returned (.bool b)) HF.out, hB1⟩
      · have e : k = n := by omega
        subst e
        have HT : Hid (true = rowB k X Y) := (rowB_true hbig hall).symm
        clear hall
        go_wp2
        go_ret
        exact ⟨congrArg (fun b => Ending.returned (.bool b)) HT.out, hbel⟩

theorem specRowOk_any (a : Option Addr) (n c : Nat) (X Y : Nat → Int) (w : World) (hP : Pts w a n X Y) (hn : n ≤ 1048576) :
    Calls Try.prog 42 #[.slice a n c] w fun e w' => e = .returned (.bool (rowB n X Y)) ∧ Bel w w' := by
  by_cases hbig : 2000 < n
  · rw [rowB_big hbig]
    have hd : decide ((n : Int) ≤ 2000) = false := by simp; omega
    have hd' : decide ((0 : Int) < n) = true := by simp; omega
    go_enter Try.func42, Try.ntmps42
    go_wp2
    go_loopw [3] (fun i wr => i = .int .i64 0 ∧ wr = w) (fun _ _ => 0)
    case atStart => exact ⟨rfl, rfl⟩
    case round =>
      obtain ⟨rfl, rfl⟩ := hrel
      go_wp2
      go_ret
      exact ⟨rfl, Bel.refl _⟩
  · have hbig : n ≤ 2000 := by omega
    go_enter Try.func42, Try.ntmps42
    go_wp2
    go_loopw [3] (fun i wr => ∃ k : Nat, k ≤ n ∧ i = .int .i64 k ∧ (∀ j, j < k → pok (X j) (Y j) = true) ∧ Bel w wr) (fun i _ => n - (intOf i).toNat)
    case atStart => exact ⟨0, Nat.zero_le _, rfl, fun j hj => absurd hj (Nat.not_lt_zero _), Bel.refl _⟩
    case round =>
      obtain ⟨k, hk, rfl, hall, hbel⟩ := hrel
      by_cases hlt : k < n
      · rcases hP.bel hbel with h | ⟨b, off, rfl, h2, h3⟩
        · omega
        · obtain ⟨cx, cy⟩ := h3 k hlt
          have H : Hid (∀ j, j < k → pok (X j) (Y j) = true) := hall
          clear h3 hall
          by_cases hp : pok (X k) (Y k) = true
          · go_wp2_with fail
            refine (specPointOk_any _ _ _).mono ?_
            rintro e w1 ⟨rfl, hb1⟩
            have hB1 : Bel w w1 := bel_step hbel hb1
            clear cx cy h2 hb1 hbel
            go_wp2
            go_roundw
            case rel => exact ⟨k + 1, by omega, by go_num, fun j hj => by (by_cases e : j = k); (subst e; exact hp); exact H.out j (by omega), hB1⟩
            case measure => simp [intOf]; omega
          · have hp : pok (X k) (Y k) = false := by simpa using hp
            have HF : Hid (false = rowB n X Y) := (rowB_at hlt hp).symm
            go_wp2_with fail
            refine (specPointOk_any _ _ _).mono ?_
            rintro e w1 ⟨rfl, hb1⟩
            have hB1 : Bel w w1 := bel_step hbel hb1
            clear cx cy h2 hb1 hbel
            go_wp2
            go_ret
            exact ⟨congrArg (fun b => Ending.returned (.bool b)) HF.out, hB1⟩
      · have e : k = n := by omega
        subst e
        have HT : Hid (true = rowB k X Y) := (rowB_true hbig hall).symm
        clear hall
        go_wp2
        go_ret
        exact ⟨congrArg (fun b => Ending.returned (.bool b)) (by rw [← HT.out]; simp; omega), hbel⟩
end Go.Proofs.Ythlgednppcapbaa
