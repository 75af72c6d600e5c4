/-
  The cursor over the bytes of a draw: contracts that tell the bounds of what is drawn, and that only the cursor's own block is written.
  What the model draws: points and numbers; contracts that tell no more than the bounds.
  What the model draws for Turn: any three points.
  What the model draws for Cross: any four points.
  What the model draws where it draws rows: a row of its own of any points.
  What the model draws for Simplify: any row of points, and a number.
  A drawn row as a row of points; whether all of its points can be.
-/
import Derived.Test.YtkinpfnelmdmlaaDoorGeo
import Derived.Deep.RegionHeld3
import Derived.Deep.LoopGhost
import Derived.Deep.DeepCutAuto
import Derived.Test.YtkinpfnelmdmlaaDoorOpen
import Derived.Laws.OwnMore
import Derived.Deep.AppendLies
import Derived.Laws.MakeOwn
import Derived.Test.YtkinpfnelmdmlaaDoorPtsC
namespace Go.Proofs.YtkinpfnelmdmlaaDoor
open Go.RowKit

theorem and255 (n : Int) : bits .and .i64 n 255 = n % 256 := by
  have h : (BitVec.ofInt 64 255).toNat = 2 ^ 8 - 1 := by decide
  have key : (BitVec.ofInt 64 n &&& BitVec.ofInt 64 255).toNat = (n % ((2 ^ 64 : Nat) : Int)).toNat % 2 ^ 8 := by
    rw [BitVec.toNat_and, BitVec.toNat_ofInt, h, Nat.and_two_pow_sub_one_eq_mod]
  show IntKind.i64.wrap ((BitVec.ofInt 64 n &&& BitVec.ofInt 64 255).toNat : Nat) = n % 256
  rw [key, IntKind.wrap_i64]
  omega
theorem and30 (n : Int) : bits .and .i64 n 1073741823 = n % 1073741824 := by
  have h : (BitVec.ofInt 64 1073741823).toNat = 2 ^ 30 - 1 := by decide
  have key : (BitVec.ofInt 64 n &&& BitVec.ofInt 64 1073741823).toNat = (n % ((2 ^ 64 : Nat) : Int)).toNat % 2 ^ 30 := by
    rw [BitVec.toNat_and, BitVec.toNat_ofInt, h, Nat.and_two_pow_sub_one_eq_mod]
  show IntKind.i64.wrap ((BitVec.ofInt 64 n &&& BitVec.ofInt 64 1073741823).toNat : Nat) = n % 1073741824
  rw [key, IntKind.wrap_i64]
  omega

/-- The slice (a, n) holds bytes. -/
def Bts (w : World) (a : Option Addr) (n : Nat) : Prop :=
  n = 0 ∨ ∃ b off, a = some ⟨b, off, none⟩ ∧ b < w.heap.size ∧ ∀ i, i < n → ∃ v : Int, (0 ≤ v ∧ v ≤ 255) ∧ w.cell? ⟨b, off + i, none⟩ = some (.int .u8 v)
theorem cur_cell {W w' : World} (h : Bel W w') {b o : Nat} {v : Value} (hb : b < W.heap.size) (hc : W.cell? ⟨b, o, none⟩ = some v) : w'.cell? ⟨b, o, none⟩ = some v := by
  rw [h.out.cell (p := ⟨b, o, none⟩) hb]; exact hc
theorem Bts.bel {w w' : World} {a : Option Addr} {n : Nat} (h : Bts w a n) (hb : Bel w w') : Bts w' a n := by
  rcases h with h | ⟨b, off, h1, h2, h3⟩
  · exact .inl h
  · exact .inr ⟨b, off, h1, bel_lt hb h2, fun i hi => (h3 i hi).elim fun v hv => ⟨v, hv.1, cur_cell hb h2 hv.2⟩⟩

/-- A cursor in its block. -/
structure Cur (w : World) (B : Nat) (a : Option Addr) (n c : Nat) : Prop where
  lt : B < w.heap.size
  c0 : w.cell? ⟨B, 0, none⟩ = some (.slice a n c)
  c1 : ∃ i : Nat, i ≤ n ∧ w.cell? ⟨B, 1, none⟩ = some (.int .i64 i)
  c2 : ∃ h : Int, w.cell? ⟨B, 2, none⟩ = some (.int .i64 h)
  fr : ∀ j, w.frozen? ⟨B, j, none⟩ = false
theorem Cur.bel {w w' : World} {B : Nat} {a : Option Addr} {n c : Nat} (h : Cur w B a n c) (hb : Bel w w') : Cur w' B a n c :=
  ⟨bel_lt hb h.lt, cur_cell hb h.lt h.c0, h.c1.elim fun i k => ⟨i, k.1, cur_cell hb h.lt k.2⟩, h.c2.elim fun i k => ⟨i, cur_cell hb h.lt k⟩, fun j => by rw [hb.out.frozen (p := ⟨B, j, none⟩) h.lt]; exact h.fr j⟩

/-- All that was stays as it was, but for one block. -/
structure OnlyB (W : World) (B : Nat) (a : World) : Prop where
  size : W.heap.size ≤ a.heap.size
  cell : ∀ c o, c < W.heap.size → c ≠ B → a.cell? ⟨c, o, none⟩ = W.cell? ⟨c, o, none⟩
  froz : ∀ c o, c < W.heap.size → c ≠ B → a.frozen? ⟨c, o, none⟩ = W.frozen? ⟨c, o, none⟩
  obj : ∀ c, c < W.heap.size → c ≠ B → a.heap[c]? = W.heap[c]?
theorem OnlyB.refl (W : World) (B : Nat) : OnlyB W B W := ⟨Nat.le_refl _, fun _ _ _ _ => rfl, fun _ _ _ _ => rfl, fun _ _ _ => rfl⟩
theorem OnlyB.bel {W : World} {B : Nat} {a b : World} (h : OnlyB W B a) (k : Bel a b) : OnlyB W B b :=
  ⟨Nat.le_trans h.size k.out.size, fun c o hc hn => by rw [k.out.cell (p := ⟨c, o, none⟩) (Nat.lt_of_lt_of_le hc h.size)]; exact h.cell c o hc hn, fun c o hc hn => by rw [k.out.frozen (p := ⟨c, o, none⟩) (Nat.lt_of_lt_of_le hc h.size)]; exact h.froz c o hc hn, fun c hc hn => (k.out.block c (Nat.lt_of_lt_of_le hc h.size)).trans (h.obj c hc hn)⟩
theorem OnlyB.set {W : World} {B : Nat} {a : World} (h : OnlyB W B a) (o : Nat) (v : Value) : OnlyB W B (a.setCell ⟨B, o, none⟩ v) :=
  ⟨by simpa [World.setCell] using h.size, fun c i hc hn => by rw [World.cell?_setCell_other _ _ _ _ (fun e => hn (congrArg Addr.block e).symm)]; exact h.cell c i hc hn, fun c i hc hn => by rw [World.frozen?_setCell]; exact h.froz c i hc hn, fun c hc hn => (Below.heap_setCell _ _ _ _ hn).trans (h.obj c hc hn)⟩
theorem OnlyB.trans {W : World} {B : Nat} {a b : World} (h : OnlyB W B a) (k : OnlyB a B b) : OnlyB W B b :=
  ⟨Nat.le_trans h.size k.size, fun c o hc hn => by rw [k.cell c o (Nat.lt_of_lt_of_le hc h.size) hn]; exact h.cell c o hc hn, fun c o hc hn => by rw [k.froz c o (Nat.lt_of_lt_of_le hc h.size) hn]; exact h.froz c o hc hn, fun c hc hn => (k.obj c (Nat.lt_of_lt_of_le hc h.size) hn).trans (h.obj c hc hn)⟩

set_option maxRecDepth 100000 in
set_option maxHeartbeats 4000000 in
theorem l1Byte_any (B : Nat) (a : Option Addr) (n c : Nat) (w0 w : World) (hb : Bel w0 w) (hB : w0.heap.size ≤ B) (hC : Cur w B a n c) (hS : Bts w0 a n) (hn : n ≤ 1048576) :
    Calls Tryd.prog 39 #[.pointer (some ⟨B, 0, none⟩)] w fun e w' => ∃ x : Int, e = .returned (.int .i64 x) ∧ (0 ≤ x ∧ x ≤ 255) ∧ Bel w0 w' ∧ OnlyB w B w' ∧ Cur w' B a n c := by
  obtain ⟨lt, c0, ⟨i, hi, c1⟩, ⟨h, c2⟩, fr⟩ := hC
  have q1 := fr 1
  have q2 := fr 2
  go_enter Tryd.func39, Tryd.ntmps39
  go_wp2
  generalize wrap64 (wrap64 (h * 6364136223846793005) + 1442695040888963407) = g
  have hW : Bel w0 (w.setCell ⟨B, 2, none⟩ (.int .i64 g)) := bel_set hb hB _
  have hO := (OnlyB.refl w B).set 2 (.int .i64 g)
  have hK : Cur (w.setCell ⟨B, 2, none⟩ (.int .i64 g)) B a n c :=
    ⟨by simpa [World.setCell] using lt, by simp [go_sem, c0], ⟨i, hi, by simp [go_sem, c1]⟩, ⟨g, by simp [go_sem, c2]⟩, fun j => by rw [World.frozen?_setCell]; exact fr j⟩
  have k1 : (w.setCell ⟨B, 2, none⟩ (.int .i64 g)).cell? ⟨B, 1, none⟩ = some (.int .i64 i) := by simp [go_sem, c1]
  have k2 : (w.setCell ⟨B, 2, none⟩ (.int .i64 g)).cell? ⟨B, 2, none⟩ = some (.int .i64 g) := by simp [go_sem, c2]
  clear c0 c1 c2 q1 q2 fr lt hb
  generalize w.setCell ⟨B, 2, none⟩ (.int .i64 g) = W at hW hK k1 k2 hO ⊢
  have hR : ∀ w', Bel W w' → w'.cell? ⟨B, 0, none⟩ = some (.slice a n c) ∧ w'.cell? ⟨B, 1, none⟩ = some (.int .i64 i) ∧ w'.cell? ⟨B, 2, none⟩ = some (.int .i64 g) := fun w' h => ⟨cur_cell h hK.lt hK.c0, cur_cell h hK.lt k1, cur_cell h hK.lt k2⟩
  have g0 : Bel W W := Bel.refl _
  have HO : Hid (OnlyB w B W) := hO
  clear hO
  go_wp2
  go_cut [3] (fun t wx => ∃ x : Int, t = .int .i64 x ∧ (0 ≤ x ∧ x ≤ 255) ∧ Bel W wx)
  case first =>
    go_region_held3 (fun w' => Bel W w') (with_reducible (repeat (first | exact g0 | refine Bel.drew ?_ | assumption))) (fail)
    all_goals
      first | go_meet | (go_wp2_with fail; go_meet)
      case rel =>
        refine ⟨_, rfl, ?_, by with_reducible assumption⟩
        rw [and255]
        omega
  case rest =>
    obtain ⟨x, rfl, ⟨x0, x1⟩, hX⟩ := hcut
    obtain ⟨V, hV⟩ : ∃ V : World, V = wc := ⟨wc, rfl⟩
    subst hV
    have hB2 := bel_step hW hX
    have hK2 := hK.bel hX
    have HO2 : Hid (OnlyB w B V) := OnlyB.bel HO.out hX
    have k1 := cur_cell hX hK.lt k1
    clear hR g0 hK k2 hX hW
    have hR : ∀ w', Bel V w' → w'.cell? ⟨B, 0, none⟩ = some (.slice a n c) ∧ w'.cell? ⟨B, 1, none⟩ = some (.int .i64 i) ∧ w'.frozen? ⟨B, 1, none⟩ = false := fun w' h => ⟨cur_cell h hK2.lt hK2.c0, cur_cell h hK2.lt k1, (hK2.bel h).fr 1⟩
    have HK : Hid (Cur V B a n c) := hK2
    have g0 : Bel V V := Bel.refl _
    by_cases hlt : i < n
    · rcases hS with h | ⟨b, off, rfl, hb, hcs⟩
      · omega
      obtain ⟨v, ⟨v0, v1⟩, hv⟩ := hcs i hlt
      have hlt' : (i : Int) < (n : Int) := by omega
      have hRv : ∀ w', Bel V w' → w'.cell? ⟨b, off + i, none⟩ = some (.int .u8 v) := fun w' h => cur_cell (bel_step hB2 h) hb hv
      have hwx : IntKind.i64.wrap (x + v) = x + v := by rw [IntKind.wrap_i64]; omega
      have hwi : IntKind.i64.wrap ((i : Int) + 1) = (i : Int) + 1 := by rw [IntKind.wrap_i64]; omega
      go_wp2
      go_region_held3 (fun w' => Bel V w') (with_reducible (repeat (first | exact g0 | refine Bel.drew ?_ | assumption))) (fail)
      go_wp2
      go_region_held3 (fun w' => Bel V w') (with_reducible (repeat (first | exact g0 | refine Bel.drew ?_ | assumption))) (fail)
      have hH : Bel V V.drew.drew := Bel.drew (Bel.drew (Bel.refl _))
      go_wp2
      go_ret
      refine ⟨_, rfl, ?_, bel_set (bel_step hB2 hH) hB _, (HO2.out.bel hH).set 1 _, ?_⟩
      · rw [and255]; omega
      · have hk1 : Cur (V.setCell ⟨B, 1, none⟩ (.int .i64 ((i : Int) + 1))) B (some ⟨b, off, none⟩) n c := by
          obtain ⟨lt, c0, _, ⟨h2, c2⟩, fr⟩ := HK.out
          exact ⟨by simpa [World.setCell] using lt, by simp [go_sem, c0], ⟨i + 1, by omega, by simp [go_sem, k1]⟩, ⟨h2, by simp [go_sem, c2]⟩, fun j => by rw [World.frozen?_setCell]; exact fr j⟩
        first | exact hk1.bel (Bel.drew (Bel.refl _)) | exact hk1.bel (Bel.drew (Bel.drew (Bel.refl _)))
    · have hlt' : ¬ (i : Int) < (n : Int) := by omega
      go_wp2
      go_region_held3 (fun w' => Bel V w') (with_reducible (repeat (first | exact g0 | refine Bel.drew ?_ | assumption))) (fail)
      have hH : Bel V V.drew := Bel.drew (Bel.refl _)
      go_wp2
      go_ret
      exact ⟨_, rfl, ⟨x0, x1⟩, bel_step hB2 hH, HO2.out.bel hH, HK.out.bel hH⟩

/-- What a draw leaves: the base's memory, all but the cursor's block, the cursor. -/
structure Drawn (w0 w : World) (B : Nat) (a : Option Addr) (n c : Nat) (w' : World) : Prop where
  b : Bel w0 w'
  o : OnlyB w B w'
  k : Cur w' B a n c
theorem Drawn.then {w0 w : World} {B : Nat} {a : Option Addr} {n c : Nat} {w1 w2 : World} (h : Drawn w0 w B a n c w1) (k : Drawn w0 w1 B a n c w2) : Drawn w0 w B a n c w2 := ⟨k.b, h.o.trans k.o, k.k⟩
theorem byte_any (B : Nat) (a : Option Addr) (n c : Nat) (w0 w : World) (hb : Bel w0 w) (hB : w0.heap.size ≤ B) (hC : Cur w B a n c) (hS : Bts w0 a n) (hn : n ≤ 1048576) :
    Calls Tryd.prog 39 #[.pointer (some ⟨B, 0, none⟩)] w fun e w' => ∃ x : Int, e = .returned (.int .i64 x) ∧ (0 ≤ x ∧ x ≤ 255) ∧ Drawn w0 w B a n c w' :=
  (l1Byte_any B a n c w0 w hb hB hC hS hn).mono fun _ _ ⟨x, e, h, b, o, k⟩ => ⟨x, e, h, ⟨b, o, k⟩⟩

set_option maxHeartbeats 1000000 in
theorem below_any (B : Nat) (a : Option Addr) (n c : Nat) (w0 w : World) (hb : Bel w0 w) (hB : w0.heap.size ≤ B) (hC : Cur w B a n c) (hS : Bts w0 a n) (hn : n ≤ 1048576) (m : Int) (m0 : 0 < m) (m1 : m ≤ 9223372036854775807) :
    Calls Tryd.prog 25 #[.pointer (some ⟨B, 0, none⟩), .int .i64 m] w fun e w' => ∃ x : Int, e = .returned (.int .i64 x) ∧ (0 ≤ x ∧ x < m) ∧ Drawn w0 w B a n c w' := by
  have m0' : ¬ m ≤ 0 := by omega
  have mz : ¬ m = 0 := by omega
  have mz' : (m == 0) = false := by simp; omega
  by_cases h : m ≤ 256
  · go_enter Tryd.func25, Tryd.ntmps25
    go_wp2_with fail
    refine (byte_any B a n c w0 _ hb hB hC hS hn).mono ?_
    rintro e w1 ⟨x, rfl, ⟨x0, x1⟩, d1⟩
    have D1 : Hid (Drawn w0 w B a n c w1) := d1
    clear d1
    go_wp2
    go_ret
    exact ⟨_, rfl, ⟨Int.emod_nonneg _ mz, Int.emod_lt_of_pos _ m0⟩, D1.out⟩
  · go_enter Tryd.func25, Tryd.ntmps25
    go_wp2_with fail
    refine (byte_any B a n c w0 _ hb hB hC hS hn).mono ?_
    rintro e w1 ⟨x, rfl, ⟨x0, x1⟩, d1⟩
    have D1 : Hid (Drawn w0 w B a n c w1) := d1
    clear d1
    go_wp2_with fail
    refine (byte_any B a n c w0 _ D1.out.b hB D1.out.k hS hn).mono ?_
    rintro e w2 ⟨y, rfl, ⟨y0, y1⟩, d2⟩
    have D2 : Hid (Drawn w0 w B a n c w2) := Drawn.then D1.out d2
    clear d2
    go_wp2_with fail
    refine (byte_any B a n c w0 _ D2.out.b hB D2.out.k hS hn).mono ?_
    rintro e w3 ⟨z, rfl, ⟨z0, z1⟩, d3⟩
    have D3 : Hid (Drawn w0 w B a n c w3) := Drawn.then D2.out d3
    clear d3
    go_wp2_with fail
    refine (byte_any B a n c w0 _ D3.out.b hB D3.out.k hS hn).mono ?_
    rintro e w4 ⟨u, rfl, ⟨u0, u1⟩, d4⟩
    have D4 : Hid (Drawn w0 w B a n c w4) := Drawn.then D3.out d4
    clear d4
    go_wp2
    go_ret
    exact ⟨_, rfl, ⟨Int.emod_nonneg _ mz, Int.emod_lt_of_pos _ m0⟩, D4.out⟩

theorem once_any (B : Nat) (a : Option Addr) (n c : Nat) (w0 w : World) (hb : Bel w0 w) (hB : w0.heap.size ≤ B) (hC : Cur w B a n c) (hS : Bts w0 a n) (hn : n ≤ 1048576) (m : Int) (m0 : 0 < m) (m1 : m ≤ 9223372036854775807) :
    Calls Tryd.prog 34 #[.pointer (some ⟨B, 0, none⟩), .int .i64 m] w fun e w' => ∃ t : Bool, e = .returned (.bool t) ∧ Drawn w0 w B a n c w' := by
  go_enter Tryd.func34, Tryd.ntmps34
  go_wp2_with fail
  refine (below_any B a n c w0 _ hb hB hC hS hn m m0 m1).mono ?_
  rintro e w1 ⟨x, rfl, _, d1⟩
  have D1 : Hid (Drawn w0 w B a n c w1) := d1
  clear d1
  go_wp2
  go_ret
  exact ⟨_, rfl, D1.out⟩

set_option maxHeartbeats 1000000 in
theorem l1New_any (a : Option Addr) (n c : Nat) (w : World) (hS : Bts w a n) (hn : n ≤ 1048576) :
    Calls Tryd.prog 16 #[.slice a n c] w fun e w' => e = .returned (.pointer (some ⟨w.heap.size, 0, none⟩)) ∧ Bel w w' ∧ Cur w' w.heap.size a n c := by
  go_enter Tryd.func16, Tryd.ntmps16
  go_wp2
  go_loopw [3, 4] (fun t i wr => ∃ (k : Nat) (h : Int), k ≤ n ∧ (0 ≤ h ∧ h ≤ 1073741823) ∧ t = .int .i64 h ∧ i = .int .i64 k ∧ wr = w) (fun _ i _ => n - (intOf i).toNat)
  case atStart => exact ⟨0, _, Nat.zero_le _, ⟨by omega, by omega⟩, rfl, rfl, rfl⟩
  case round =>
    obtain ⟨k, h, hk, ⟨h0, h1⟩, rfl, rfl, rfl⟩ := hrel
    by_cases hlt : k < n
    · rcases hS with hz | ⟨b, off, rfl, hb, hcs⟩
      · omega
      obtain ⟨v, ⟨v0, v1⟩, hv⟩ := hcs k hlt
      have hlt' : (k : Int) < (n : Int) := by omega
      go_wp2
      go_roundw
      case rel => exact ⟨k + 1, _, by omega, by rw [and30]; omega, rfl, by go_num, trivial⟩
      case measure => simp [intOf]; omega
    · obtain rfl : k = n := by omega
      go_wp2
      go_ret
      exact ⟨rfl, bel_alloc (Bel.refl _) _, ⟨by simp, by simp [go_sem], ⟨0, Nat.zero_le _, by simp [go_sem]⟩, ⟨h, by simp [go_sem]⟩, fun j => by simp⟩⟩
end Go.Proofs.YtkinpfnelmdmlaaDoor

namespace Go.Proofs.YtkinpfnelmdmlaaDoor
open Go.RowKit

theorem Cur.far {w : World} {B : Nat} {a : Option Addr} {n c : Nat} (h : Cur w B a n c) {C : Nat} (hn : C ≠ B) (o : Nat) (u : Value) : Cur (w.setCell ⟨C, o, none⟩ u) B a n c := by
  have e : ∀ j, (w.setCell ⟨C, o, none⟩ u).cell? ⟨B, j, none⟩ = w.cell? ⟨B, j, none⟩ := fun j => World.cell?_setCell_other _ _ _ _ (fun e => hn (congrArg Addr.block e))
  exact ⟨by simpa [World.setCell] using h.lt, by rw [e]; exact h.c0, by rw [e]; exact h.c1, by rw [e]; exact h.c2, fun j => by rw [World.frozen?_setCell]; exact h.fr j⟩
theorem Drawn.far {w0 w : World} {B : Nat} {a : Option Addr} {n c : Nat} {v : World} (h : Drawn w0 w B a n c v) {C : Nat} (h0 : w0.heap.size ≤ C) (h1 : w.heap.size ≤ C) (hn : C ≠ B) (o : Nat) (u : Value) : Drawn w0 w B a n c (v.setCell ⟨C, o, none⟩ u) :=
  ⟨bel_set h.b h0 _, ⟨by simpa [World.setCell] using h.o.size, fun d i hd hB => by rw [World.cell?_setCell_other _ _ _ _ (fun e => by have := congrArg Addr.block e; simp at this; omega)]; exact h.o.cell d i hd hB, fun d i hd hB => by rw [World.frozen?_setCell]; exact h.o.froz d i hd hB, fun d hd hB => (Below.heap_setCell _ _ _ _ (by show d ≠ C; omega)).trans (h.o.obj d hd hB)⟩, h.k.far hn o u⟩
theorem Drawn.bel {w0 w : World} {B : Nat} {a : Option Addr} {n c : Nat} {v u : World} (h : Drawn w0 w B a n c v) (k : Bel v u) : Drawn w0 w B a n c u := ⟨bel_step h.b k, h.o.bel k, h.k.bel k⟩
theorem Drawn.from {w0 w W : World} {B : Nat} {a : Option Addr} {n c : Nat} {v : World} (h : Drawn w0 W B a n c v) (k : Bel w W) : Drawn w0 w B a n c v :=
  ⟨h.b, ⟨Nat.le_trans k.out.size h.o.size, fun d i hd hB => by rw [h.o.cell d i (Nat.lt_of_lt_of_le hd k.out.size) hB, k.out.cell (p := ⟨d, i, none⟩) hd], fun d i hd hB => by rw [h.o.froz d i (Nat.lt_of_lt_of_le hd k.out.size) hB, k.out.frozen (p := ⟨d, i, none⟩) hd], fun d hd hB => (h.o.obj d (Nat.lt_of_lt_of_le hd k.out.size) hB).trans (k.out.block d hd)⟩, h.k⟩

set_option maxRecDepth 100000 in
set_option maxHeartbeats 4000000 in
theorem drawPoint_any (B : Nat) (a : Option Addr) (n c : Nat) (w0 w : World) (hb : Bel w0 w) (hB : w0.heap.size ≤ B) (hC : Cur w B a n c) (hS : Bts w0 a n) (hn : n ≤ 1048576) :
    Calls Tryd.prog 24 #[.pointer (some ⟨B, 0, none⟩)] w fun e w' => ∃ x y : Int, e = .returned (pt x y) ∧ Drawn w0 w B a n c w' := by
  have hA : Bel w (w.alloc (.cells #[.int .i64 0, .int .i64 0] 26)) := bel_alloc (Bel.refl _) _
  have hlt : B < w.heap.size := hC.lt
  have z0 : (w.alloc (.cells #[.int .i64 0, .int .i64 0] 26)).cell? ⟨w.heap.size, 0, none⟩ = some (.int .i64 0) := by simp [go_sem]
  have z1 : (w.alloc (.cells #[.int .i64 0, .int .i64 0] 26)).cell? ⟨w.heap.size, 1, none⟩ = some (.int .i64 0) := by simp [go_sem]
  have zf : ∀ j, (w.alloc (.cells #[.int .i64 0, .int .i64 0] 26)).frozen? ⟨w.heap.size, j, none⟩ = false := fun j => by simp
  have zl : w.heap.size < (w.alloc (.cells #[.int .i64 0, .int .i64 0] 26)).heap.size := by simp
  have hb1 := bel_step hb hA
  have hC1 := hC.bel hA
  go_enter Tryd.func24, Tryd.ntmps24
  go_wp2_with fail
  refine (below_any B a n c w0 _ hb1 hB hC1 hS hn 41 (by decide) (by decide)).mono ?_
  rintro e w1 ⟨x, rfl, ⟨x0, x1⟩, d1⟩
  generalize w.alloc (.cells #[.int .i64 0, .int .i64 0] 26) = W at hA z0 z1 zf zl hb1 hC1 d1
  have D1 : Hid (Drawn w0 W B a n c w1) := d1
  clear d1
  go_wp2_with fail
  refine (below_any B a n c w0 _ D1.out.b hB D1.out.k hS hn 41 (by decide) (by decide)).mono ?_
  rintro e w2 ⟨y, rfl, ⟨y0, y1⟩, d2⟩
  have D2 : Hid (Drawn w0 W B a n c w2) := Drawn.then D1.out d2
  clear d2
  go_wp2_with fail
  refine (below_any B a n c w0 _ D2.out.b hB D2.out.k hS hn 12 (by decide) (by decide)).mono ?_
  rintro e w3 ⟨t, rfl, ⟨t0, t1⟩, d3⟩
  have D3 : Hid (Drawn w0 W B a n c w3) := Drawn.then D2.out d3
  clear d3 D1 D2
  have hw0 : w0.heap.size ≤ w.heap.size := hb.out.size
  have hRB : w.heap.size ≠ B := by omega
  rcases (show t = 0 ∨ t = 1 ∨ t = 2 ∨ 2 < t by omega) with rfl | rfl | rfl | ht
  case inl =>
    go_wp2_with fail
    generalize (x - 20) * 500000 = X
    generalize y - 20 = Y
    refine (once_any B a n c w0 _ D3.out.b hB D3.out.k hS hn 60 (by decide) (by decide)).mono ?_
    rintro e w4 ⟨tt, rfl, d4⟩
    have D4 : Hid (Drawn w0 W B a n c w4) := Drawn.then D3.out d4
    clear d4
    cases tt with
    | false =>
      have e0 := (D4.out.o.cell w.heap.size 0 zl hRB).trans z0
      have e1 := (D4.out.o.cell w.heap.size 1 zl hRB).trans z1
      have f0 := (D4.out.o.froz w.heap.size 0 zl hRB).trans (zf 0)
      have f1 := (D4.out.o.froz w.heap.size 1 zl hRB).trans (zf 1)
      go_wp2
      exact bodyPost_ret (v := pt X Y) (by simp [results, Tryd.results24, go_sem, e0, e1]) rfl ⟨_, _, rfl, (((D4.out.from hA).far hw0 (Nat.le_refl _) hRB _ _).far hw0 (Nat.le_refl _) hRB _ _)⟩
    | true =>
      have hA4 : Bel w4 (w4.alloc (.cells #[.int .i64 10000000, .int .i64 (-10000000), .int .i64 10000001, .int .i64 (-4611686018427387904)] 2)) := bel_alloc (Bel.refl _) _
      have hl4 : w4.heap.size < (w4.alloc (.cells #[.int .i64 10000000, .int .i64 (-10000000), .int .i64 10000001, .int .i64 (-4611686018427387904)] 2)).heap.size := by simp
      have hn4 : w4.heap.size ≠ B := by have := D4.out.k.lt; omega
      have l0 : (w4.alloc (.cells #[.int .i64 10000000, .int .i64 (-10000000), .int .i64 10000001, .int .i64 (-4611686018427387904)] 2)).cell? ⟨w4.heap.size, 0, none⟩ = some (.int .i64 10000000) := by simp [go_sem]
      have l1 : (w4.alloc (.cells #[.int .i64 10000000, .int .i64 (-10000000), .int .i64 10000001, .int .i64 (-4611686018427387904)] 2)).cell? ⟨w4.heap.size, 1, none⟩ = some (.int .i64 (-10000000)) := by simp [go_sem]
      have l2 : (w4.alloc (.cells #[.int .i64 10000000, .int .i64 (-10000000), .int .i64 10000001, .int .i64 (-4611686018427387904)] 2)).cell? ⟨w4.heap.size, 2, none⟩ = some (.int .i64 10000001) := by simp [go_sem]
      have l3 : (w4.alloc (.cells #[.int .i64 10000000, .int .i64 (-10000000), .int .i64 10000001, .int .i64 (-4611686018427387904)] 2)).cell? ⟨w4.heap.size, 3, none⟩ = some (.int .i64 (-4611686018427387904)) := by simp [go_sem]
      go_wp2_with fail
      refine (below_any B a n c w0 _ (bel_step D4.out.b hA4) hB (D4.out.k.bel hA4) hS hn 4 (by decide) (by decide)).mono ?_
      rintro e w5 ⟨r, rfl, ⟨r0, r1⟩, d5⟩
      have l0 := (d5.o.cell w4.heap.size 0 hl4 hn4).trans l0
      have l1 := (d5.o.cell w4.heap.size 1 hl4 hn4).trans l1
      have l2 := (d5.o.cell w4.heap.size 2 hl4 hn4).trans l2
      have l3 := (d5.o.cell w4.heap.size 3 hl4 hn4).trans l3
      have D5 : Hid (Drawn w0 W B a n c w5) := Drawn.then (D4.out.bel hA4) d5
      clear d5 hA4 hl4
      rcases (show r = 0 ∨ r = 1 ∨ r = 2 ∨ r = 3 by omega) with rfl | rfl | rfl | rfl
      · have e0 := (D5.out.o.cell w.heap.size 0 zl hRB).trans z0
        have e1 := (D5.out.o.cell w.heap.size 1 zl hRB).trans z1
        have f0 := (D5.out.o.froz w.heap.size 0 zl hRB).trans (zf 0)
        have f1 := (D5.out.o.froz w.heap.size 1 zl hRB).trans (zf 1)
        go_wp2
        exact bodyPost_ret (v := pt 10000000 Y) (by simp [results, Tryd.results24, go_sem, e0, e1]) rfl ⟨_, _, rfl, (((D5.out.from hA).far hw0 (Nat.le_refl _) hRB _ _).far hw0 (Nat.le_refl _) hRB _ _)⟩
      · have e0 := (D5.out.o.cell w.heap.size 0 zl hRB).trans z0
        have e1 := (D5.out.o.cell w.heap.size 1 zl hRB).trans z1
        have f0 := (D5.out.o.froz w.heap.size 0 zl hRB).trans (zf 0)
        have f1 := (D5.out.o.froz w.heap.size 1 zl hRB).trans (zf 1)
        go_wp2
        exact bodyPost_ret (v := pt (-10000000) Y) (by simp [results, Tryd.results24, go_sem, e0, e1]) rfl ⟨_, _, rfl, (((D5.out.from hA).far hw0 (Nat.le_refl _) hRB _ _).far hw0 (Nat.le_refl _) hRB _ _)⟩
      · have e0 := (D5.out.o.cell w.heap.size 0 zl hRB).trans z0
        have e1 := (D5.out.o.cell w.heap.size 1 zl hRB).trans z1
        have f0 := (D5.out.o.froz w.heap.size 0 zl hRB).trans (zf 0)
        have f1 := (D5.out.o.froz w.heap.size 1 zl hRB).trans (zf 1)
        go_wp2
        exact bodyPost_ret (v := pt 10000001 Y) (by simp [results, Tryd.results24, go_sem, e0, e1]) rfl ⟨_, _, rfl, (((D5.out.from hA).far hw0 (Nat.le_refl _) hRB _ _).far hw0 (Nat.le_refl _) hRB _ _)⟩
      · have e0 := (D5.out.o.cell w.heap.size 0 zl hRB).trans z0
        have e1 := (D5.out.o.cell w.heap.size 1 zl hRB).trans z1
        have f0 := (D5.out.o.froz w.heap.size 0 zl hRB).trans (zf 0)
        have f1 := (D5.out.o.froz w.heap.size 1 zl hRB).trans (zf 1)
        go_wp2
        exact bodyPost_ret (v := pt (-4611686018427387904) Y) (by simp [results, Tryd.results24, go_sem, e0, e1]) rfl ⟨_, _, rfl, (((D5.out.from hA).far hw0 (Nat.le_refl _) hRB _ _).far hw0 (Nat.le_refl _) hRB _ _)⟩
  case inr.inl =>
    go_wp2_with fail
    generalize x - 20 = X
    generalize (y - 20) * 500000 = Y
    refine (once_any B a n c w0 _ D3.out.b hB D3.out.k hS hn 60 (by decide) (by decide)).mono ?_
    rintro e w4 ⟨tt, rfl, d4⟩
    have D4 : Hid (Drawn w0 W B a n c w4) := Drawn.then D3.out d4
    clear d4
    cases tt with
    | false =>
      have e0 := (D4.out.o.cell w.heap.size 0 zl hRB).trans z0
      have e1 := (D4.out.o.cell w.heap.size 1 zl hRB).trans z1
      have f0 := (D4.out.o.froz w.heap.size 0 zl hRB).trans (zf 0)
      have f1 := (D4.out.o.froz w.heap.size 1 zl hRB).trans (zf 1)
      go_wp2
      exact bodyPost_ret (v := pt X Y) (by simp [results, Tryd.results24, go_sem, e0, e1]) rfl ⟨_, _, rfl, (((D4.out.from hA).far hw0 (Nat.le_refl _) hRB _ _).far hw0 (Nat.le_refl _) hRB _ _)⟩
    | true =>
      have hA4 : Bel w4 (w4.alloc (.cells #[.int .i64 10000000, .int .i64 (-10000000), .int .i64 10000001, .int .i64 (-4611686018427387904)] 2)) := bel_alloc (Bel.refl _) _
      have hl4 : w4.heap.size < (w4.alloc (.cells #[.int .i64 10000000, .int .i64 (-10000000), .int .i64 10000001, .int .i64 (-4611686018427387904)] 2)).heap.size := by simp
      have hn4 : w4.heap.size ≠ B := by have := D4.out.k.lt; omega
      have l0 : (w4.alloc (.cells #[.int .i64 10000000, .int .i64 (-10000000), .int .i64 10000001, .int .i64 (-4611686018427387904)] 2)).cell? ⟨w4.heap.size, 0, none⟩ = some (.int .i64 10000000) := by simp [go_sem]
      have l1 : (w4.alloc (.cells #[.int .i64 10000000, .int .i64 (-10000000), .int .i64 10000001, .int .i64 (-4611686018427387904)] 2)).cell? ⟨w4.heap.size, 1, none⟩ = some (.int .i64 (-10000000)) := by simp [go_sem]
      have l2 : (w4.alloc (.cells #[.int .i64 10000000, .int .i64 (-10000000), .int .i64 10000001, .int .i64 (-4611686018427387904)] 2)).cell? ⟨w4.heap.size, 2, none⟩ = some (.int .i64 10000001) := by simp [go_sem]
      have l3 : (w4.alloc (.cells #[.int .i64 10000000, .int .i64 (-10000000), .int .i64 10000001, .int .i64 (-4611686018427387904)] 2)).cell? ⟨w4.heap.size, 3, none⟩ = some (.int .i64 (-4611686018427387904)) := by simp [go_sem]
      go_wp2_with fail
      refine (below_any B a n c w0 _ (bel_step D4.out.b hA4) hB (D4.out.k.bel hA4) hS hn 4 (by decide) (by decide)).mono ?_
      rintro e w5 ⟨r, rfl, ⟨r0, r1⟩, d5⟩
      have l0 := (d5.o.cell w4.heap.size 0 hl4 hn4).trans l0
      have l1 := (d5.o.cell w4.heap.size 1 hl4 hn4).trans l1
      have l2 := (d5.o.cell w4.heap.size 2 hl4 hn4).trans l2
      have l3 := (d5.o.cell w4.heap.size 3 hl4 hn4).trans l3
      have D5 : Hid (Drawn w0 W B a n c w5) := Drawn.then (D4.out.bel hA4) d5
      clear d5 hA4 hl4
      rcases (show r = 0 ∨ r = 1 ∨ r = 2 ∨ r = 3 by omega) with rfl | rfl | rfl | rfl
      · have e0 := (D5.out.o.cell w.heap.size 0 zl hRB).trans z0
        have e1 := (D5.out.o.cell w.heap.size 1 zl hRB).trans z1
        have f0 := (D5.out.o.froz w.heap.size 0 zl hRB).trans (zf 0)
        have f1 := (D5.out.o.froz w.heap.size 1 zl hRB).trans (zf 1)
        go_wp2
        exact bodyPost_ret (v := pt 10000000 Y) (by simp [results, Tryd.results24, go_sem, e0, e1]) rfl ⟨_, _, rfl, (((D5.out.from hA).far hw0 (Nat.le_refl _) hRB _ _).far hw0 (Nat.le_refl _) hRB _ _)⟩
      · have e0 := (D5.out.o.cell w.heap.size 0 zl hRB).trans z0
        have e1 := (D5.out.o.cell w.heap.size 1 zl hRB).trans z1
        have f0 := (D5.out.o.froz w.heap.size 0 zl hRB).trans (zf 0)
        have f1 := (D5.out.o.froz w.heap.size 1 zl hRB).trans (zf 1)
        go_wp2
        exact bodyPost_ret (v := pt (-10000000) Y) (by simp [results, Tryd.results24, go_sem, e0, e1]) rfl ⟨_, _, rfl, (((D5.out.from hA).far hw0 (Nat.le_refl _) hRB _ _).far hw0 (Nat.le_refl _) hRB _ _)⟩
      · have e0 := (D5.out.o.cell w.heap.size 0 zl hRB).trans z0
        have e1 := (D5.out.o.cell w.heap.size 1 zl hRB).trans z1
        have f0 := (D5.out.o.froz w.heap.size 0 zl hRB).trans (zf 0)
        have f1 := (D5.out.o.froz w.heap.size 1 zl hRB).trans (zf 1)
        go_wp2
        exact bodyPost_ret (v := pt 10000001 Y) (by simp [results, Tryd.results24, go_sem, e0, e1]) rfl ⟨_, _, rfl, (((D5.out.from hA).far hw0 (Nat.le_refl _) hRB _ _).far hw0 (Nat.le_refl _) hRB _ _)⟩
      · have e0 := (D5.out.o.cell w.heap.size 0 zl hRB).trans z0
        have e1 := (D5.out.o.cell w.heap.size 1 zl hRB).trans z1
        have f0 := (D5.out.o.froz w.heap.size 0 zl hRB).trans (zf 0)
        have f1 := (D5.out.o.froz w.heap.size 1 zl hRB).trans (zf 1)
        go_wp2
        exact bodyPost_ret (v := pt (-4611686018427387904) Y) (by simp [results, Tryd.results24, go_sem, e0, e1]) rfl ⟨_, _, rfl, (((D5.out.from hA).far hw0 (Nat.le_refl _) hRB _ _).far hw0 (Nat.le_refl _) hRB _ _)⟩
  case inr.inr.inl =>
    go_wp2_with fail
    generalize (x - 20) * 321 = X
    generalize (y - 20) * 777 = Y
    refine (once_any B a n c w0 _ D3.out.b hB D3.out.k hS hn 60 (by decide) (by decide)).mono ?_
    rintro e w4 ⟨tt, rfl, d4⟩
    have D4 : Hid (Drawn w0 W B a n c w4) := Drawn.then D3.out d4
    clear d4
    cases tt with
    | false =>
      have e0 := (D4.out.o.cell w.heap.size 0 zl hRB).trans z0
      have e1 := (D4.out.o.cell w.heap.size 1 zl hRB).trans z1
      have f0 := (D4.out.o.froz w.heap.size 0 zl hRB).trans (zf 0)
      have f1 := (D4.out.o.froz w.heap.size 1 zl hRB).trans (zf 1)
      go_wp2
      exact bodyPost_ret (v := pt X Y) (by simp [results, Tryd.results24, go_sem, e0, e1]) rfl ⟨_, _, rfl, (((D4.out.from hA).far hw0 (Nat.le_refl _) hRB _ _).far hw0 (Nat.le_refl _) hRB _ _)⟩
    | true =>
      have hA4 : Bel w4 (w4.alloc (.cells #[.int .i64 10000000, .int .i64 (-10000000), .int .i64 10000001, .int .i64 (-4611686018427387904)] 2)) := bel_alloc (Bel.refl _) _
      have hl4 : w4.heap.size < (w4.alloc (.cells #[.int .i64 10000000, .int .i64 (-10000000), .int .i64 10000001, .int .i64 (-4611686018427387904)] 2)).heap.size := by simp
      have hn4 : w4.heap.size ≠ B := by have := D4.out.k.lt; omega
      have l0 : (w4.alloc (.cells #[.int .i64 10000000, .int .i64 (-10000000), .int .i64 10000001, .int .i64 (-4611686018427387904)] 2)).cell? ⟨w4.heap.size, 0, none⟩ = some (.int .i64 10000000) := by simp [go_sem]
      have l1 : (w4.alloc (.cells #[.int .i64 10000000, .int .i64 (-10000000), .int .i64 10000001, .int .i64 (-4611686018427387904)] 2)).cell? ⟨w4.heap.size, 1, none⟩ = some (.int .i64 (-10000000)) := by simp [go_sem]
      have l2 : (w4.alloc (.cells #[.int .i64 10000000, .int .i64 (-10000000), .int .i64 10000001, .int .i64 (-4611686018427387904)] 2)).cell? ⟨w4.heap.size, 2, none⟩ = some (.int .i64 10000001) := by simp [go_sem]
      have l3 : (w4.alloc (.cells #[.int .i64 10000000, .int .i64 (-10000000), .int .i64 10000001, .int .i64 (-4611686018427387904)] 2)).cell? ⟨w4.heap.size, 3, none⟩ = some (.int .i64 (-4611686018427387904)) := by simp [go_sem]
      go_wp2_with fail
      refine (below_any B a n c w0 _ (bel_step D4.out.b hA4) hB (D4.out.k.bel hA4) hS hn 4 (by decide) (by decide)).mono ?_
      rintro e w5 ⟨r, rfl, ⟨r0, r1⟩, d5⟩
      have l0 := (d5.o.cell w4.heap.size 0 hl4 hn4).trans l0
      have l1 := (d5.o.cell w4.heap.size 1 hl4 hn4).trans l1
      have l2 := (d5.o.cell w4.heap.size 2 hl4 hn4).trans l2
      have l3 := (d5.o.cell w4.heap.size 3 hl4 hn4).trans l3
      have D5 : Hid (Drawn w0 W B a n c w5) := Drawn.then (D4.out.bel hA4) d5
      clear d5 hA4 hl4
      rcases (show r = 0 ∨ r = 1 ∨ r = 2 ∨ r = 3 by omega) with rfl | rfl | rfl | rfl
      · have e0 := (D5.out.o.cell w.heap.size 0 zl hRB).trans z0
        have e1 := (D5.out.o.cell w.heap.size 1 zl hRB).trans z1
        have f0 := (D5.out.o.froz w.heap.size 0 zl hRB).trans (zf 0)
        have f1 := (D5.out.o.froz w.heap.size 1 zl hRB).trans (zf 1)
        go_wp2
        exact bodyPost_ret (v := pt 10000000 Y) (by simp [results, Tryd.results24, go_sem, e0, e1]) rfl ⟨_, _, rfl, (((D5.out.from hA).far hw0 (Nat.le_refl _) hRB _ _).far hw0 (Nat.le_refl _) hRB _ _)⟩
      · have e0 := (D5.out.o.cell w.heap.size 0 zl hRB).trans z0
        have e1 := (D5.out.o.cell w.heap.size 1 zl hRB).trans z1
        have f0 := (D5.out.o.froz w.heap.size 0 zl hRB).trans (zf 0)
        have f1 := (D5.out.o.froz w.heap.size 1 zl hRB).trans (zf 1)
        go_wp2
        exact bodyPost_ret (v := pt (-10000000) Y) (by simp [results, Tryd.results24, go_sem, e0, e1]) rfl ⟨_, _, rfl, (((D5.out.from hA).far hw0 (Nat.le_refl _) hRB _ _).far hw0 (Nat.le_refl _) hRB _ _)⟩
      · have e0 := (D5.out.o.cell w.heap.size 0 zl hRB).trans z0
        have e1 := (D5.out.o.cell w.heap.size 1 zl hRB).trans z1
        have f0 := (D5.out.o.froz w.heap.size 0 zl hRB).trans (zf 0)
        have f1 := (D5.out.o.froz w.heap.size 1 zl hRB).trans (zf 1)
        go_wp2
        exact bodyPost_ret (v := pt 10000001 Y) (by simp [results, Tryd.results24, go_sem, e0, e1]) rfl ⟨_, _, rfl, (((D5.out.from hA).far hw0 (Nat.le_refl _) hRB _ _).far hw0 (Nat.le_refl _) hRB _ _)⟩
      · have e0 := (D5.out.o.cell w.heap.size 0 zl hRB).trans z0
        have e1 := (D5.out.o.cell w.heap.size 1 zl hRB).trans z1
        have f0 := (D5.out.o.froz w.heap.size 0 zl hRB).trans (zf 0)
        have f1 := (D5.out.o.froz w.heap.size 1 zl hRB).trans (zf 1)
        go_wp2
        exact bodyPost_ret (v := pt (-4611686018427387904) Y) (by simp [results, Tryd.results24, go_sem, e0, e1]) rfl ⟨_, _, rfl, (((D5.out.from hA).far hw0 (Nat.le_refl _) hRB _ _).far hw0 (Nat.le_refl _) hRB _ _)⟩
  case inr.inr.inr =>
    have h0 : ¬ t = 0 := by omega
    have h1 : ¬ t = 1 := by omega
    have h2 : ¬ t = 2 := by omega
    go_wp2_with fail
    generalize x - 20 = X
    generalize y - 20 = Y
    refine (once_any B a n c w0 _ D3.out.b hB D3.out.k hS hn 60 (by decide) (by decide)).mono ?_
    rintro e w4 ⟨tt, rfl, d4⟩
    have D4 : Hid (Drawn w0 W B a n c w4) := Drawn.then D3.out d4
    clear d4
    cases tt with
    | false =>
      have e0 := (D4.out.o.cell w.heap.size 0 zl hRB).trans z0
      have e1 := (D4.out.o.cell w.heap.size 1 zl hRB).trans z1
      have f0 := (D4.out.o.froz w.heap.size 0 zl hRB).trans (zf 0)
      have f1 := (D4.out.o.froz w.heap.size 1 zl hRB).trans (zf 1)
      go_wp2
      exact bodyPost_ret (v := pt X Y) (by simp [results, Tryd.results24, go_sem, e0, e1]) rfl ⟨_, _, rfl, (((D4.out.from hA).far hw0 (Nat.le_refl _) hRB _ _).far hw0 (Nat.le_refl _) hRB _ _)⟩
    | true =>
      have hA4 : Bel w4 (w4.alloc (.cells #[.int .i64 10000000, .int .i64 (-10000000), .int .i64 10000001, .int .i64 (-4611686018427387904)] 2)) := bel_alloc (Bel.refl _) _
      have hl4 : w4.heap.size < (w4.alloc (.cells #[.int .i64 10000000, .int .i64 (-10000000), .int .i64 10000001, .int .i64 (-4611686018427387904)] 2)).heap.size := by simp
      have hn4 : w4.heap.size ≠ B := by have := D4.out.k.lt; omega
      have l0 : (w4.alloc (.cells #[.int .i64 10000000, .int .i64 (-10000000), .int .i64 10000001, .int .i64 (-4611686018427387904)] 2)).cell? ⟨w4.heap.size, 0, none⟩ = some (.int .i64 10000000) := by simp [go_sem]
      have l1 : (w4.alloc (.cells #[.int .i64 10000000, .int .i64 (-10000000), .int .i64 10000001, .int .i64 (-4611686018427387904)] 2)).cell? ⟨w4.heap.size, 1, none⟩ = some (.int .i64 (-10000000)) := by simp [go_sem]
      have l2 : (w4.alloc (.cells #[.int .i64 10000000, .int .i64 (-10000000), .int .i64 10000001, .int .i64 (-4611686018427387904)] 2)).cell? ⟨w4.heap.size, 2, none⟩ = some (.int .i64 10000001) := by simp [go_sem]
      have l3 : (w4.alloc (.cells #[.int .i64 10000000, .int .i64 (-10000000), .int .i64 10000001, .int .i64 (-4611686018427387904)] 2)).cell? ⟨w4.heap.size, 3, none⟩ = some (.int .i64 (-4611686018427387904)) := by simp [go_sem]
      go_wp2_with fail
      refine (below_any B a n c w0 _ (bel_step D4.out.b hA4) hB (D4.out.k.bel hA4) hS hn 4 (by decide) (by decide)).mono ?_
      rintro e w5 ⟨r, rfl, ⟨r0, r1⟩, d5⟩
      have l0 := (d5.o.cell w4.heap.size 0 hl4 hn4).trans l0
      have l1 := (d5.o.cell w4.heap.size 1 hl4 hn4).trans l1
      have l2 := (d5.o.cell w4.heap.size 2 hl4 hn4).trans l2
      have l3 := (d5.o.cell w4.heap.size 3 hl4 hn4).trans l3
      have D5 : Hid (Drawn w0 W B a n c w5) := Drawn.then (D4.out.bel hA4) d5
      clear d5 hA4 hl4
      rcases (show r = 0 ∨ r = 1 ∨ r = 2 ∨ r = 3 by omega) with rfl | rfl | rfl | rfl
      · have e0 := (D5.out.o.cell w.heap.size 0 zl hRB).trans z0
        have e1 := (D5.out.o.cell w.heap.size 1 zl hRB).trans z1
        have f0 := (D5.out.o.froz w.heap.size 0 zl hRB).trans (zf 0)
        have f1 := (D5.out.o.froz w.heap.size 1 zl hRB).trans (zf 1)
        go_wp2
        exact bodyPost_ret (v := pt 10000000 Y) (by simp [results, Tryd.results24, go_sem, e0, e1]) rfl ⟨_, _, rfl, (((D5.out.from hA).far hw0 (Nat.le_refl _) hRB _ _).far hw0 (Nat.le_refl _) hRB _ _)⟩
      · have e0 := (D5.out.o.cell w.heap.size 0 zl hRB).trans z0
        have e1 := (D5.out.o.cell w.heap.size 1 zl hRB).trans z1
        have f0 := (D5.out.o.froz w.heap.size 0 zl hRB).trans (zf 0)
        have f1 := (D5.out.o.froz w.heap.size 1 zl hRB).trans (zf 1)
        go_wp2
        exact bodyPost_ret (v := pt (-10000000) Y) (by simp [results, Tryd.results24, go_sem, e0, e1]) rfl ⟨_, _, rfl, (((D5.out.from hA).far hw0 (Nat.le_refl _) hRB _ _).far hw0 (Nat.le_refl _) hRB _ _)⟩
      · have e0 := (D5.out.o.cell w.heap.size 0 zl hRB).trans z0
        have e1 := (D5.out.o.cell w.heap.size 1 zl hRB).trans z1
        have f0 := (D5.out.o.froz w.heap.size 0 zl hRB).trans (zf 0)
        have f1 := (D5.out.o.froz w.heap.size 1 zl hRB).trans (zf 1)
        go_wp2
        exact bodyPost_ret (v := pt 10000001 Y) (by simp [results, Tryd.results24, go_sem, e0, e1]) rfl ⟨_, _, rfl, (((D5.out.from hA).far hw0 (Nat.le_refl _) hRB _ _).far hw0 (Nat.le_refl _) hRB _ _)⟩
      · have e0 := (D5.out.o.cell w.heap.size 0 zl hRB).trans z0
        have e1 := (D5.out.o.cell w.heap.size 1 zl hRB).trans z1
        have f0 := (D5.out.o.froz w.heap.size 0 zl hRB).trans (zf 0)
        have f1 := (D5.out.o.froz w.heap.size 1 zl hRB).trans (zf 1)
        go_wp2
        exact bodyPost_ret (v := pt (-4611686018427387904) Y) (by simp [results, Tryd.results24, go_sem, e0, e1]) rfl ⟨_, _, rfl, (((D5.out.from hA).far hw0 (Nat.le_refl _) hRB _ _).far hw0 (Nat.le_refl _) hRB _ _)⟩
end Go.Proofs.YtkinpfnelmdmlaaDoor

namespace Go.Proofs.YtkinpfnelmdmlaaDoor
open Go.RowKit

theorem big_any (a : Option Addr) (n c : Nat) (w : World) :
    Calls Tryd.prog 4 #[.slice a n c] w fun e w' => e = .returned (.bool (decide (1048576 < (n : Int)))) ∧ w' = w := by
  go_enter Tryd.func4, Tryd.ntmps4
  go_wp2
  go_ret
  exact ⟨rfl, rfl⟩

/-- A point lies in a block that may be written. -/
structure Pa (w : World) (b : Nat) (x y : Int) : Prop where
  c0 : w.cell? ⟨b, 0, none⟩ = some (.int .i64 x)
  c1 : w.cell? ⟨b, 1, none⟩ = some (.int .i64 y)
  fr : ∀ j, w.frozen? ⟨b, j, none⟩ = false
  lt : b < w.heap.size
theorem Pa.new (w : World) (x y : Int) (t : TypeId) : Pa (w.alloc (.cells #[.int .i64 x, .int .i64 y] t)) w.heap.size x y := ⟨by simp [go_sem], by simp [go_sem], fun j => by simp, by simp⟩
theorem Pa.bel {w w' : World} {b : Nat} {x y : Int} (h : Pa w b x y) (k : Bel w w') : Pa w' b x y :=
  ⟨cur_cell k h.lt h.c0, cur_cell k h.lt h.c1, fun j => by rw [k.out.frozen (p := ⟨b, j, none⟩) h.lt]; exact h.fr j, bel_lt k h.lt⟩
theorem Pa.drawn {w w' w0 : World} {b B : Nat} {x y : Int} {a : Option Addr} {n c : Nat} (h : Pa w b x y) (d : Drawn w0 w B a n c w') (hn : b ≠ B) : Pa w' b x y :=
  ⟨(d.o.cell b 0 h.lt hn).trans h.c0, (d.o.cell b 1 h.lt hn).trans h.c1, fun j => (d.o.froz b j h.lt hn).trans (h.fr j), Nat.lt_of_lt_of_le h.lt d.o.size⟩
theorem Pa.far {w : World} {b : Nat} {x y : Int} (h : Pa w b x y) {C : Nat} (hn : b ≠ C) (o : Nat) (u : Value) : Pa (w.setCell ⟨C, o, none⟩ u) b x y := by
  have e : ∀ j, (w.setCell ⟨C, o, none⟩ u).cell? ⟨b, j, none⟩ = w.cell? ⟨b, j, none⟩ := fun j => World.cell?_setCell_other _ _ _ _ (fun e => hn (congrArg Addr.block e).symm)
  exact ⟨by rw [e]; exact h.c0, by rw [e]; exact h.c1, fun j => by rw [World.frozen?_setCell]; exact h.fr j, by simpa [World.setCell] using h.lt⟩
theorem Pa.put {w : World} {b : Nat} {x y : Int} (h : Pa w b x y) (x' y' : Int) : Pa ((w.setCell ⟨b, 0, none⟩ (.int .i64 x')).setCell ⟨b, 1, none⟩ (.int .i64 y')) b x' y' :=
  ⟨by simp [go_sem, h.c0], by simp [go_sem, h.c1], fun j => by rw [World.frozen?_setCell, World.frozen?_setCell]; exact h.fr j, by simpa [World.setCell] using h.lt⟩

end Go.Proofs.YtkinpfnelmdmlaaDoor

namespace Go.Proofs.YtkinpfnelmdmlaaDoor
open Go.RowKit

theorem infoX : (Tryd.prog.info? 26).map (fun i => (i.zero, i.size, i.bytes)) = some (some (.agg #[.int .i64 0, .int .i64 0]), 2, 16) := by kernel_rfl
theorem infoX_parts : ∃ i : TypeInfo, Tryd.prog.info? 26 = some i ∧ i.zero = some (.agg #[.int .i64 0, .int .i64 0]) ∧ i.size = 2 ∧ i.bytes = 16 := by
  have h := infoX
  cases e : Tryd.prog.info? 26 with
  | none => rw [e] at h; simp at h
  | some i => rw [e] at h; simp at h; exact ⟨i, rfl, h.1, h.2.1, h.2.2⟩
theorem own_drawn {w w' w0 : World} {B base e sz : Nat} {v : Value} {k : Nat} {xs : List Value} {a : Option Addr} {n c : Nat} (h : w.ownsRow base e sz v k xs) (d : Drawn w0 w B a n c w') (hB : B < base) : w'.ownsRow base e sz v k xs := by
  refine ⟨h.1, h.2.imp id ?_⟩
  rintro ⟨g, cap, cur, hv, hb, hg, r⟩
  refine ⟨g, cap, cur, hv, hb, (d.o.obj g ?_ (by omega)).trans hg, r⟩
  exact (Array.getElem?_eq_some_iff.1 hg).1
theorem Drawn.grown {w0 w v u : World} {B : Nat} {a : Option Addr} {n c : Nat} {row : Option Nat} (h : Drawn w0 w B a n c v) (g : v.grownBy u row) (h0 : w0.heap.size ≤ w.heap.size) (hB : B < w.heap.size) (hr : ∀ k, row = some k → w.heap.size ≤ k) : Drawn w0 w B a n c u := by
  have ne : ∀ d, d < w.heap.size → some d ≠ row := fun d hd e => by have := hr d e.symm; omega
  have eb : ∀ d, d < w.heap.size → u.heap[d]? = v.heap[d]? := fun d hd => g.block d (Nat.lt_of_lt_of_le hd h.o.size) (ne d hd)
  have ec : ∀ d i, d < w.heap.size → u.cell? ⟨d, i, none⟩ = v.cell? ⟨d, i, none⟩ := fun d i hd => World.cell?_of_block (a := ⟨d, i, none⟩) (eb d hd)
  have ef : ∀ d i, d < w.heap.size → u.frozen? ⟨d, i, none⟩ = v.frozen? ⟨d, i, none⟩ := fun d i hd => World.frozen?_of_block (a := ⟨d, i, none⟩) (eb d hd)
  exact ⟨Below.grown h.b g h.b.out.size (fun k e => Nat.le_trans h0 (hr k e)), ⟨Nat.le_trans h.o.size g.size, fun d i hd hn => (ec d i hd).trans (h.o.cell d i hd hn), fun d i hd hn => (ef d i hd).trans (h.o.froz d i hd hn), fun d hd hn => (eb d hd).trans (h.o.obj d hd hn)⟩,
    ⟨Nat.lt_of_lt_of_le h.k.lt g.size, (ec B 0 hB).trans h.k.c0, h.k.c1.elim fun i k => ⟨i, k.1, (ec B 1 hB).trans k.2⟩, h.k.c2.elim fun i k => ⟨i, (ec B 2 hB).trans k⟩, fun j => (ef B j hB).trans (h.k.fr j)⟩⟩
/-- A row of four points that may be written. -/
structure Rw (w : World) (g : Nat) : Prop where
  c : ∀ j, j < 8 → ∃ z : Int, w.cell? ⟨g, j, none⟩ = some (.int .i64 z)
  fr : ∀ j, w.frozen? ⟨g, j, none⟩ = false
  lt : g < w.heap.size
theorem Rw.of {w : World} {base t g cap : Nat} {xs : List Value} (h : w.ownsRow base t 2 (.slice (some ⟨g, 0, none⟩) 4 cap) 4 xs) (hx : ∀ u ∈ xs, ∃ z : Int, u = .int .i64 z) : Rw w g := by
  refine ⟨fun j hj => ?_, h.frozenAt, (h.lt g rfl).2⟩
  have hl : j < xs.length := by rw [h.1]; omega
  obtain ⟨z, e⟩ := hx xs[j] (List.getElem_mem hl)
  exact ⟨z, by rw [h.cellAt j (by omega), List.getElem?_eq_getElem hl, e]⟩
theorem Rw.drawn {w w' w0 : World} {g B : Nat} {a : Option Addr} {n c : Nat} (h : Rw w g) (d : Drawn w0 w B a n c w') (hn : g ≠ B) : Rw w' g :=
  ⟨fun j hj => (h.c j hj).elim fun z e => ⟨z, (d.o.cell g j h.lt hn).trans e⟩, fun j => (d.o.froz g j h.lt hn).trans (h.fr j), Nat.lt_of_lt_of_le h.lt d.o.size⟩
theorem Rw.set {w : World} {g : Nat} (h : Rw w g) (o : Nat) (z : Int) : Rw (w.setCell ⟨g, o, none⟩ (.int .i64 z)) g := by
  refine ⟨fun j hj => ?_, fun j => by rw [World.frozen?_setCell]; exact h.fr j, by simpa [World.setCell] using h.lt⟩
  obtain ⟨y, e⟩ := h.c j hj
  by_cases k : j = o
  · subst k; exact ⟨z, World.cell?_setCell_same _ _ _ e⟩
  · exact ⟨y, by rw [World.cell?_setCell_other _ _ _ _ (fun e => k (congrArg Addr.off e).symm)]; exact e⟩
theorem own_form {w : World} {base t k : Nat} {v : Value} {xs : List Value} (h : w.ownsRow base t 2 v k xs) : ∃ va vc, v = .slice va k vc := by
  rcases h.2 with ⟨rfl, rfl⟩ | ⟨g, cap, _, rfl, _⟩
  · exact ⟨_, _, rfl⟩
  · exact ⟨_, _, rfl⟩
theorem own_form4 {w : World} {base t : Nat} {v : Value} {xs : List Value} (h : w.ownsRow base t 2 v 4 xs) : ∃ g cap, v = .slice (some ⟨g, 0, none⟩) 4 cap ∧ base ≤ g := by
  rcases h.2 with ⟨_, h⟩ | ⟨g, cap, _, rfl, hb, _⟩
  · cases h
  · exact ⟨_, _, rfl, hb⟩

end Go.Proofs.YtkinpfnelmdmlaaDoor

namespace Go.Proofs.YtkinpfnelmdmlaaDoor
open Go.RowKit

theorem own_low {w : World} {base base' e sz k : Nat} {v : Value} {xs : List Value} (h : w.ownsRow base e sz v k xs) (hb : base' ≤ base) : w.ownsRow base' e sz v k xs :=
  ⟨h.1, h.2.imp id fun ⟨g, cap, cur, hv, hb', r⟩ => ⟨g, cap, cur, hv, Nat.le_trans hb hb', r⟩⟩

set_option maxRecDepth 100000 in
set_option maxHeartbeats 4000000 in
theorem drawRow_any (B : Nat) (a : Option Addr) (n c : Nat) (w0 w : World) (hb : Bel w0 w) (hB : w0.heap.size ≤ B) (hC : Cur w B a n c) (hS : Bts w0 a n) (hn : n ≤ 1048576) (m : Nat) (hm : m ≤ 4096) :
    Calls Tryd.prog 33 #[.pointer (some ⟨B, 0, none⟩), .int .i64 m] w fun e w' => ∃ (v : Value) (xs : List Value), e = .returned v ∧ w'.ownsRow w.heap.size 26 2 v m xs ∧ (∀ u ∈ xs, ∃ z : Int, u = .int .i64 z) ∧ Drawn w0 w B a n c w' := by
  have hB1 : B < w.heap.size := hC.lt
  have hBl : w0.heap.size ≤ w.heap.size := hb.out.size
  have D1 : Drawn w0 w B a n c (w.alloc (.cells #[] 26)) := Drawn.bel ⟨hb, OnlyB.refl _ _, hC⟩ (bel_alloc (Bel.refl _) _)
  have O1 : (w.alloc (.cells #[] 26)).ownsRow w.heap.size 26 2 (.slice (some ⟨w.heap.size, 0, none⟩) 0 0) 0 [] := World.ownsRow_lit w #[] 0 (Nat.le_refl _) (Nat.zero_le _) rfl
  obtain ⟨i0, hi, hz0, hz1, hz2⟩ := infoX_parts
  go_enter Tryd.func33, Tryd.ntmps33
  go_wp2
  go_loopw [5, 6] (fun r i wr => ∃ (k : Nat) (xs : List Value), k ≤ m ∧ i = .int .i64 k ∧ wr.ownsRow w.heap.size 26 2 r k xs ∧ (∀ u ∈ xs, ∃ z : Int, u = .int .i64 z) ∧ Drawn w0 w B a n c wr) (fun _ i _ => m - (intOf i).toNat)
  case atStart => exact ⟨0, [], by omega, rfl, O1, (fun u hu => by cases hu), D1⟩
  case round =>
    obtain ⟨k, xs, hk, rfl, hO, hX, hD⟩ := hrel
    clear D1 O1
    obtain ⟨va, vc, rfl⟩ := own_form hO
    by_cases hlt : k < m
    · have hlt' : (k : Int) < (m : Int) := by omega
      go_wp2_with fail
      refine (drawPoint_any B a n c w0 wr hD.b hB hD.k hS hn).mono ?_
      rintro e w3 ⟨x, y, rfl, d3⟩
      have hs3 : w.heap.size ≤ w3.heap.size := (hD.then d3).o.size
      have HO : Hid ((w3.alloc (.cells #[.int .i64 x, .int .i64 y] 26)).ownsRow w.heap.size 26 2 (.slice va k vc) k xs) := (own_drawn hO d3 hB1).alloc (.cells #[.int .i64 x, .int .i64 y] 26)
      have HD : Hid (Drawn w0 w B a n c (w3.alloc (.cells #[.int .i64 x, .int .i64 y] 26))) := (hD.then d3).bel (bel_alloc (Bel.refl w3) (.cells #[.int .i64 x, .int .i64 y] 26))
      have HN : Hid (∀ (j : Nat) (u : Value), [Value.int .i64 x, .int .i64 y][j]? = some u → (w3.alloc (.cells #[.int .i64 x, .int .i64 y] 26)).cell? ((⟨w3.heap.size, 0, none⟩ : Addr).add j) = some u) := World.news_of_block (cs := #[.int .i64 x, .int .i64 y]) (t := 26) (fr := (0, 0)) (heap_alloc_new w3 _)
      clear d3 hO hD
      go_wp2_with (first
        | (at_builtin; refine wpList_append_own _ rfl _ _ 24 rfl w.heap.size 26 i0 (.agg #[.int .i64 0, .int .i64 0]) 2 16 Tryd.underlying24 hi hz0 hz1 hz2 rfl (by decide) _ _ _ rfl HO.out ⟨w3.heap.size, 0, none⟩ 1 1 [.int .i64 x, .int .i64 y] rfl rfl HN.out (by simp [Value.oneCell']) (by unfold maxLen; omega) (by omega) (by simp; omega) ?_)
        | go_in)
      intro v' w4 hown hgrow _
      have HD4 : Hid (Drawn w0 w B a n c w4) := HD.out.grown hgrow hBl hB1 (fun q e => (HO.out.lt q e).1)
      have HO4 : Hid (w4.ownsRow w.heap.size 26 2 v' (k + 1) (xs ++ [.int .i64 x, .int .i64 y])) := hown
      obtain ⟨va', vc', rfl⟩ := own_form hown
      have HX : Hid (∀ u ∈ xs ++ [Value.int .i64 x, .int .i64 y], ∃ z : Int, u = .int .i64 z) := fun u hu => by
        rcases List.mem_append.1 hu with h | h
        · exact hX u h
        · simp at h
          rcases h with rfl | rfl
          · exact ⟨_, rfl⟩
          · exact ⟨_, rfl⟩
      clear hown hgrow HO HD HN
      go_wp2
      go_roundw
      case rel => exact ⟨k + 1, _, by omega, by go_num, HO4.out, HX.out, HD4.out⟩
      case measure => simp [intOf]; omega
    · obtain rfl : k = m := by omega
      have HO : Hid (wr.ownsRow w.heap.size 26 2 (.slice va k vc) k xs) := hO
      have HX : Hid (∀ u ∈ xs, ∃ z : Int, u = .int .i64 z) := hX
      have HD : Hid (Drawn w0 w B a n c wr) := hD
      clear hO hX hD
      go_wp2
      go_ret
      exact ⟨_, _, rfl, HO.out, HX.out, HD.out⟩

set_option maxRecDepth 100000 in
set_option maxHeartbeats 4000000 in
theorem drawAny_any (B : Nat) (a : Option Addr) (n c : Nat) (w0 w : World) (hb : Bel w0 w) (hB : w0.heap.size ≤ B) (hC : Cur w B a n c) (hS : Bts w0 a n) (hn : n ≤ 1048576) :
    Calls Tryd.prog 17 #[.pointer (some ⟨B, 0, none⟩)] w fun e w' => ∃ (v : Value) (m : Nat) (xs : List Value), e = .returned v ∧ m ≤ 2001 ∧ w'.ownsRow w.heap.size 26 2 v m xs ∧ (∀ u ∈ xs, ∃ z : Int, u = .int .i64 z) ∧ Drawn w0 w B a n c w' := by
  have hB1 : B < w.heap.size := hC.lt
  have hmk : ∀ (s : Nat) (w : World), s ≤ 2001 → (Instr.makeSlice 24 (.int .i64 s) (.int .i64 s)).run Tryd.prog w = .ok (.slice (some ⟨w.heap.size, 0, none⟩) s s) (w.alloc (.cells (madeCells #[.int .i64 0, .int .i64 0] (s * 2)) 26)) := fun s w hs => by
    obtain ⟨i0, hi, hz0, hz1, hz2⟩ := infoX_parts
    have := run_make (P := Tryd.prog) w 24 26 i0 (.agg #[.int .i64 0, .int .i64 0]) Tryd.underlying24 hi hz0 .i64 .i64 s s (by omega) (by omega) (by rw [hz2]; omega) (by omega)
    rw [hz1] at this
    exact this
  go_enter Tryd.func17, Tryd.ntmps17
  go_wp2_with fail
  refine (below_any B a n c w0 w hb hB hC hS hn 9 (by decide) (by decide)).mono ?_
  rintro e w1 ⟨t, rfl, ⟨t0, t1⟩, d1⟩
  obtain ⟨m, rfl⟩ : ∃ m : Nat, t = m := ⟨t.toNat, by omega⟩
  go_wp2_with fail
  refine (drawRow_any B a n c w0 w1 d1.b hB d1.k hS hn m (by omega)).mono ?_
  rintro e w2 ⟨v, xs, rfl, hO, hX, d2⟩
  have hO : w2.ownsRow w.heap.size 26 2 v m xs := own_low hO d1.o.size
  have D2 := d1.then d2
  obtain ⟨va, vc, rfl⟩ := own_form hO
  clear d1 d2
  go_wp2_with fail
  refine (once_any B a n c w0 w2 D2.b hB D2.k hS hn 100 (by decide) (by decide)).mono ?_
  rintro e w3 ⟨t, rfl, d3⟩
  cases t
  · have HO : Hid (w3.ownsRow w.heap.size 26 2 (.slice va m vc) m xs) := own_drawn hO d3 hB1
    have HD : Hid (Drawn w0 w B a n c w3) := D2.then d3
    have HX : Hid (∀ u ∈ xs, ∃ z : Int, u = .int .i64 z) := hX
    clear hO hX D2 d3 hmk
    go_wp2
    go_ret
    exact ⟨_, m, _, rfl, by omega, HO.out, HX.out, HD.out⟩
  · have D3 := D2.then d3
    clear hO hX D2 d3
    go_wp2_with fail
    refine (below_any B a n c w0 w3 D3.b hB D3.k hS hn 2 (by decide) (by decide)).mono ?_
    rintro e w4 ⟨s, rfl, ⟨s0, s1⟩, d4⟩
    have D4 := D3.then d4
    clear D3 d4
    obtain ⟨r, Hr⟩ : ∃ r : Nat, Hid ((2000 : Int) + s = r) := ⟨(2000 + s).toNat, by show (2000 : Int) + s = _; omega⟩
    have hr : r ≤ 2001 := by have := Hr.out; omega
    have hw : wrap64 (2000 + s) = (r : Int) := by have := Hr.out; unfold wrap64; omega
    have hw2 : (2000 : Int) + s = (r : Int) := Hr.out
    have hmk2 := hmk r w4 hr
    have HD : Hid (Drawn w0 w B a n c (w4.alloc (.cells (madeCells #[.int .i64 0, .int .i64 0] (r * 2)) 26))) := D4.bel (bel_alloc (Bel.refl _) _)
    have HO : Hid ((w4.alloc (.cells (madeCells #[.int .i64 0, .int .i64 0] (r * 2)) 26)).ownsRow w.heap.size 26 2 (.slice (some ⟨w4.heap.size, 0, none⟩) r r) r (madeCells #[.int .i64 0, .int .i64 0] (r * 2)).toList) := World.ownsRow_lit w4 _ r D4.o.size (by unfold maxLen; omega) (by simp [madeCells])
    have HX : Hid (∀ u ∈ (madeCells #[Value.int .i64 0, .int .i64 0] (r * 2)).toList, ∃ z : Int, u = .int .i64 z) := fun u hu => by
      simp only [madeCells, Array.toList_map, List.mem_map] at hu
      obtain ⟨i, _, rfl⟩ := hu
      refine ⟨0, ?_⟩
      show (#[Value.int .i64 0, .int .i64 0] : Array Value)[i % 2]! = _
      rcases (show i % 2 = 0 ∨ i % 2 = 1 by omega) with h | h <;> rw [h] <;> rfl
    clear hmk D4
    go_wp2
    go_ret
    exact ⟨_, r, _, rfl, hr, HO.out, HX.out, HD.out⟩
end Go.Proofs.YtkinpfnelmdmlaaDoor

namespace Go.Proofs.YtkinpfnelmdmlaaDoor
open Go.RowKit

end Go.Proofs.YtkinpfnelmdmlaaDoor

namespace Go.Proofs.YtkinpfnelmdmlaaDoor
open Go.RowKit

theorem own_pts {w : World} {base m : Nat} {v : Value} {xs : List Value} (h : w.ownsRow base 26 2 v m xs) (hx : ∀ u ∈ xs, ∃ z : Int, u = .int .i64 z) :
    ∃ (a : Option Addr) (c : Nat) (X Y : Nat → Int), v = .slice a m c ∧ m ≤ c ∧ Pts w a m X Y := by
  rcases h.2 with ⟨rfl, rfl⟩ | ⟨g, cap, cur, rfl, hb, hg, hc, _⟩
  · exact ⟨none, 0, fun _ => 0, fun _ => 0, rfl, Nat.le_refl _, .inl rfl⟩
  · have key : ∀ j, j < m * 2 → w.cell? ⟨g, j, none⟩ = some (.int .i64 (intOf (xs.getD j (.int .i64 0)))) := fun j hj => by
      have hl : j < xs.length := by rw [h.1]; exact hj
      obtain ⟨z, e⟩ := hx xs[j] (List.getElem_mem hl)
      have e2 : xs.getD j (.int .i64 0) = .int .i64 z := by simp [List.getD, hl, e]
      rw [h.cellAt j hj, List.getElem?_eq_getElem hl, e2, e]
      rfl
    refine ⟨some ⟨g, 0, none⟩, cap, fun i => intOf (xs.getD (i * 2) (.int .i64 0)), fun i => intOf (xs.getD (i * 2 + 1) (.int .i64 0)), rfl, hc, .inr ⟨g, 0, rfl, (h.lt g rfl).2, fun i hi => ⟨?_, ?_⟩⟩⟩
    · rw [Nat.zero_add]; exact key _ (by omega)
    · rw [Nat.zero_add]; exact key _ (by omega)

/-- All points can be. -/
def okA (m : Nat) (X Y : Nat → Int) : Bool := (List.range m).all fun i => pok (X i) (Y i)
theorem okA_yes {m : Nat} {X Y : Nat → Int} (h : ∀ i, i < m → pok (X i) (Y i) = true) : okA m X Y = true := by
  unfold okA; rw [List.all_eq_true]; exact fun i hi => h i (List.mem_range.1 hi)
theorem okA_no {m i : Nat} {X Y : Nat → Int} (hi : i < m) (h : pok (X i) (Y i) = false) : okA m X Y = false := by
  unfold okA; rw [List.all_eq_false]; exact ⟨i, List.mem_range.2 hi, by rw [h]; exact Bool.false_ne_true⟩
set_option maxHeartbeats 2000000 in
theorem allOk_any (a : Option Addr) (m c : Nat) (X Y : Nat → Int) (w : World) (hP : Pts w a m X Y) (hm : m ≤ 1048576) :
    Calls Tryd.prog 7 #[.slice a m c] w fun e w' => e = .returned (.bool (okA m X Y)) ∧ Bel w w' := by
  obtain ⟨R, HR⟩ : ∃ R, Hid (okA m X Y = R) := ⟨_, (rfl : okA m X Y = _)⟩
  rw [HR.out]
  go_enter Tryd.func7, Tryd.ntmps7
  go_wp2
  go_loopw [3] (fun i wr => ∃ k : Nat, k ≤ m ∧ i = .int .i64 k ∧ (∀ j, j < k → pok (X j) (Y j) = true) ∧ Bel w wr) (fun i _ => m - (intOf i).toNat)
  case atStart => exact ⟨0, by omega, rfl, (fun j hj => by omega), Bel.refl _⟩
  case round =>
    obtain ⟨k, hk, rfl, hA, hB⟩ := hrel
    have HA : Hid (∀ j, j < k → pok (X j) (Y j) = true) := hA
    clear hA
    by_cases hlt : k < m
    · have hlt' : (k : Int) < (m : Int) := by omega
      rcases hP.bel hB with h | ⟨b, off, rfl, hb, hc⟩
      · omega
      · obtain ⟨c0, c1⟩ := hc k hlt
        clear hc
        go_wp2_with fail
        refine (pointOk_any (X k) (Y k) wr).mono ?_
        rintro e w1 ⟨rfl, g1⟩
        have B1 := bel_step hB g1
        by_cases h : pok (X k) (Y k) = true
        · rw [h]
          go_wp2
          go_roundw
          case rel => exact ⟨k + 1, by omega, by go_num, (fun j hj => by by_cases e : j = k; (· subst e; exact h); (· exact HA.out j (by omega))), B1⟩
          case measure => simp [intOf]; omega
        · have h : pok (X k) (Y k) = false := by simpa using h
          rw [h]
          have hR : R = false := HR.out.symm.trans (okA_no hlt h)
          subst hR
          go_wp2
          go_ret
          exact ⟨rfl, B1⟩
    · have hge : ¬ (k : Int) < (m : Int) := by omega
      have hR : R = true := HR.out.symm.trans (okA_yes fun i hi => HA.out i (by omega))
      subst hR
      clear hP
      go_wp2
      go_ret
      exact ⟨rfl, hB⟩
end Go.Proofs.YtkinpfnelmdmlaaDoor
