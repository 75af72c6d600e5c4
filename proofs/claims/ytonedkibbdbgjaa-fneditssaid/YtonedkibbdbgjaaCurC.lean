/-
  The cursor over the bytes of a draw: contracts that tell the bounds of what is drawn, and that only the cursor's own block is written.
-/
import Derived.Test.YtonedkibbdbgjaaGeo
import Derived.Deep.RegionHeld3
import Derived.Deep.LoopGhost
import Derived.Deep.DeepCutAuto
namespace Go.Proofs.Ytonedkibbdbgjaa
open Go.RowKit

theorem and255 (n : Int) : bits .and .i64 n 255 = n % 256 := by
  have h : (BitVec.ofInt 64 255).toNat = 2 ^ 8 - 1 := by decide
  have key : (BitVec.ofInt 64 n &&& BitVec.ofInt 64 255).toNat = (n % ((2 ^ 64 : Nat) : Int)).toNat % 2 ^ 8 := by
    rw [BitVec.toNat_and, BitVec.toNat_ofInt, h, Nat.and_two_pow_sub_one_eq_mod]
  show IntKind.i64.wrap ((BitVec.ofInt 64 n &&& BitVec.ofInt 64 255).toNat : Nat) = n % 256
  rw [key, IntKind.wrap_i64]
  omega
theorem and30 (n : Int) : bits .and .i64 n 1073741823 = n % 1073741824 := by
  have h : (BitVec.ofInt 64 1073741823).toNat = 2 ^ 30 - 1 := by decide
  have key : (BitVec.ofInt 64 n &&& BitVec.ofInt 64 1073741823).toNat = (n % ((2 ^ 64 : Nat) : Int)).toNat % 2 ^ 30 := by
    rw [BitVec.toNat_and, BitVec.toNat_ofInt, h, Nat.and_two_pow_sub_one_eq_mod]
  show IntKind.i64.wrap ((BitVec.ofInt 64 n &&& BitVec.ofInt 64 1073741823).toNat : Nat) = n % 1073741824
  rw [key, IntKind.wrap_i64]
  omega

/-- The slice (a, n) holds bytes. -/
def Bts (w : World) (a : Option Addr) (n : Nat) : Prop :=
  n = 0 ∨ ∃ b off, a = some ⟨b, off, none⟩ ∧ b < w.heap.size ∧ ∀ i, i < n → ∃ v : Int, (0 ≤ v ∧ v ≤ 255) ∧ w.cell? ⟨b, off + i, none⟩ = some (.int .u8 v)
theorem cur_cell {W w' : World} (h : Bel W w') {b o : Nat} {v : Value} (hb : b < W.heap.size) (hc : W.cell? ⟨b, o, none⟩ = some v) : w'.cell? ⟨b, o, none⟩ = some v := by
  rw [h.out.cell (p := ⟨b, o, none⟩) hb]; exact hc
theorem Bts.bel {w w' : World} {a : Option Addr} {n : Nat} (h : Bts w a n) (hb : Bel w w') : Bts w' a n := by
  rcases h with h | ⟨b, off, h1, h2, h3⟩
  · exact .inl h
  · exact .inr ⟨b, off, h1, bel_lt hb h2, fun i hi => (h3 i hi).elim fun v hv => ⟨v, hv.1, cur_cell hb h2 hv.2⟩⟩

/-- A cursor in its block. -/
structure Cur (w : World) (B : Nat) (a : Option Addr) (n c : Nat) : Prop where
  lt : B < w.heap.size
  c0 : w.cell? ⟨B, 0, none⟩ = some (.slice a n c)
  c1 : ∃ i : Nat, i ≤ n ∧ w.cell? ⟨B, 1, none⟩ = some (.int .i64 i)
  c2 : ∃ h : Int, w.cell? ⟨B, 2, none⟩ = some (.int .i64 h)
  fr : ∀ j, w.frozen? ⟨B, j, none⟩ = false
theorem Cur.bel {w w' : World} {B : Nat} {a : Option Addr} {n c : Nat} (h : Cur w B a n c) (hb : Bel w w') : Cur w' B a n c :=
  ⟨bel_lt hb h.lt, cur_cell hb h.lt h.c0, h.c1.elim fun i k => ⟨i, k.1, cur_cell hb h.lt k.2⟩, h.c2.elim fun i k => ⟨i, cur_cell hb h.lt k⟩, fun j => by rw [hb.out.frozen (p := ⟨B, j, none⟩) h.lt]; exact h.fr j⟩

/-- All that was stays as it was, but for one block. -/
structure OnlyB (W : World) (B : Nat) (a : World) : Prop where
  size : W.heap.size ≤ a.heap.size
  cell : ∀ c o, c < W.heap.size → c ≠ B → a.cell? ⟨c, o, none⟩ = W.cell? ⟨c, o, none⟩
  froz : ∀ c o, c < W.heap.size → c ≠ B → a.frozen? ⟨c, o, none⟩ = W.frozen? ⟨c, o, none⟩
  obj : ∀ c, c < W.heap.size → c ≠ B → a.heap[c]? = W.heap[c]?
theorem OnlyB.refl (W : World) (B : Nat) : OnlyB W B W := ⟨Nat.le_refl _, fun _ _ _ _ => rfl, fun _ _ _ _ => rfl, fun _ _ _ => rfl⟩
theorem OnlyB.bel {W : World} {B : Nat} {a b : World} (h : OnlyB W B a) (k : Bel a b) : OnlyB W B b :=
  ⟨Nat.le_trans h.size k.out.size, fun c o hc hn => by rw [k.out.cell (p := ⟨c, o, none⟩) (Nat.lt_of_lt_of_le hc h.size)]; exact h.cell c o hc hn, fun c o hc hn => by rw [k.out.frozen (p := ⟨c, o, none⟩) (Nat.lt_of_lt_of_le hc h.size)]; exact h.froz c o hc hn, fun c hc hn => (k.out.block c (Nat.lt_of_lt_of_le hc h.size)).trans (h.obj c hc hn)⟩
theorem OnlyB.set {W : World} {B : Nat} {a : World} (h : OnlyB W B a) (o : Nat) (v : Value) : OnlyB W B (a.setCell ⟨B, o, none⟩ v) :=
  ⟨by simpa [World.setCell] using h.size, fun c i hc hn => by rw [World.cell?_setCell_other _ _ _ _ (fun e => hn (congrArg Addr.block e).symm)]; exact h.cell c i hc hn, fun c i hc hn => by rw [World.frozen?_setCell]; exact h.froz c i hc hn, fun c hc hn => (Below.heap_setCell _ _ _ _ hn).trans (h.obj c hc hn)⟩
theorem OnlyB.trans {W : World} {B : Nat} {a b : World} (h : OnlyB W B a) (k : OnlyB a B b) : OnlyB W B b :=
  ⟨Nat.le_trans h.size k.size, fun c o hc hn => by rw [k.cell c o (Nat.lt_of_lt_of_le hc h.size) hn]; exact h.cell c o hc hn, fun c o hc hn => by rw [k.froz c o (Nat.lt_of_lt_of_le hc h.size) hn]; exact h.froz c o hc hn, fun c hc hn => (k.obj c (Nat.lt_of_lt_of_le hc h.size) hn).trans (h.obj c hc hn)⟩

set_option maxRecDepth 100000 in
set_option maxHeartbeats 4000000 in
theorem l1Byte_any (B : Nat) (a : Option Addr) (n c : Nat) (w0 w : World) (hb : Bel w0 w) (hB : w0.heap.size ≤ B) (hC : Cur w B a n c) (hS : Bts w0 a n) (hn : n ≤ 1048576) :
    Calls Try.prog 23 #[.pointer (some ⟨B, 0, none⟩)] w fun e w' => ∃ x : Int, e = .returned (.int .i64 x) ∧ (0 ≤ x ∧ x ≤ 255) ∧ Bel w0 w' ∧ OnlyB w B w' ∧ Cur w' B a n c := by
  obtain ⟨lt, c0, ⟨i, hi, c1⟩, ⟨h, c2⟩, fr⟩ := hC
  have q1 := fr 1
  have q2 := fr 2
  go_enter Try.func23, Try.ntmps23
  go_wp2
  generalize wrap64 (wrap64 (h * 6364136223846793005) + 1442695040888963407) = g
  have hW : Bel w0 (w.setCell ⟨B, 2, none⟩ (.int .i64 g)) := bel_set hb hB _
  have hO := (OnlyB.refl w B).set 2 (.int .i64 g)
  have hK : Cur (w.setCell ⟨B, 2, none⟩ (.int .i64 g)) B a n c :=
    ⟨by simpa [World.setCell] using lt, by simp [go_sem, c0], ⟨i, hi, by simp [go_sem, c1]⟩, ⟨g, by simp [go_sem, c2]⟩, fun j => by rw [World.frozen?_setCell]; exact fr j⟩
  have k1 : (w.setCell ⟨B, 2, none⟩ (.int .i64 g)).cell? ⟨B, 1, none⟩ = some (.int .i64 i) := by simp [go_sem, c1]
  have k2 : (w.setCell ⟨B, 2, none⟩ (.int .i64 g)).cell? ⟨B, 2, none⟩ = some (.int .i64 g) := by simp [go_sem, c2]
  clear c0 c1 c2 q1 q2 fr lt hb
  generalize w.setCell ⟨B, 2, none⟩ (.int .i64 g) = W at hW hK k1 k2 hO ⊢
  have hR : ∀ w', Bel W w' → w'.cell? ⟨B, 0, none⟩ = some (.slice a n c) ∧ w'.cell? ⟨B, 1, none⟩ = some (.int .i64 i) ∧ w'.cell? ⟨B, 2, none⟩ = some (.int .i64 g) := fun w' h => ⟨cur_cell h hK.lt hK.c0, cur_cell h hK.lt k1, cur_cell h hK.lt k2⟩
  have g0 : Bel W W := Bel.refl _
  have HO : Hid (OnlyB w B W) := hO
  clear hO
  go_wp2
  go_cut [3] (fun t wx => ∃ x : Int, t = .int .i64 x ∧ (0 ≤ x ∧ x ≤ 255) ∧ Bel W wx)
  case first =>
    go_region_held3 (fun w' => Bel W w') (with_reducible (repeat (first | exact g0 | refine Bel.drew ?_ | assumption))) (fail)
    all_goals
      first | go_meet | (go_wp2_with fail; go_meet)
      case rel =>
        refine ⟨_, rfl, ?_, by with_reducible assumption⟩
        rw [and255]
        omega
  case rest =>
    obtain ⟨x, rfl, ⟨x0, x1⟩, hX⟩ := hcut
    obtain ⟨V, hV⟩ : ∃ V : World, V = wc := ⟨wc, rfl⟩
    subst hV
    have hB2 := bel_step hW hX
    have hK2 := hK.bel hX
    have HO2 : Hid (OnlyB w B V) := OnlyB.bel HO.out hX
    have k1 := cur_cell hX hK.lt k1
    clear hR g0 hK k2 hX hW
    have hR : ∀ w', Bel V w' → w'.cell? ⟨B, 0, none⟩ = some (.slice a n c) ∧ w'.cell? ⟨B, 1, none⟩ = some (.int .i64 i) ∧ w'.frozen? ⟨B, 1, none⟩ = false := fun w' h => ⟨cur_cell h hK2.lt hK2.c0, cur_cell h hK2.lt k1, (hK2.bel h).fr 1⟩
    have HK : Hid (Cur V B a n c) := hK2
    have g0 : Bel V V := Bel.refl _
    by_cases hlt : i < n
    · rcases hS with h | ⟨b, off, rfl, hb, hcs⟩
      · omega
      obtain ⟨v, ⟨v0, v1⟩, hv⟩ := hcs i hlt
      have hlt' : (i : Int) < (n : Int) := by omega
      have hRv : ∀ w', Bel V w' → w'.cell? ⟨b, off + i, none⟩ = some (.int .u8 v) := fun w' h => cur_cell (bel_step hB2 h) hb hv
      have hwx : IntKind.i64.wrap (x + v) = x + v := by rw [IntKind.wrap_i64]; omega
      have hwi : IntKind.i64.wrap ((i : Int) + 1) = (i : Int) + 1 := by rw [IntKind.wrap_i64]; omega
      go_wp2
      go_region_held3 (fun w' => Bel V w') (with_reducible (repeat (first | exact g0 | refine Bel.drew ?_ | assumption))) (fail)
      go_wp2
      go_region_held3 (fun w' => Bel V w') (with_reducible (repeat (first | exact g0 | refine Bel.drew ?_ | assumption))) (fail)
      have hH : Bel V V.drew.drew := Bel.drew (Bel.drew (Bel.refl _))
      go_wp2
      go_ret
      refine ⟨_, rfl, ?_, bel_set (bel_step hB2 hH) hB _, (HO2.out.bel hH).set 1 _, ?_⟩
      · rw [and255]; omega
      · have hk1 : Cur (V.setCell ⟨B, 1, none⟩ (.int .i64 ((i : Int) + 1))) B (some ⟨b, off, none⟩) n c := by
          obtain ⟨lt, c0, _, ⟨h2, c2⟩, fr⟩ := HK.out
          exact ⟨by simpa [World.setCell] using lt, by simp [go_sem, c0], ⟨i + 1, by omega, by simp [go_sem, k1]⟩, ⟨h2, by simp [go_sem, c2]⟩, fun j => by rw [World.frozen?_setCell]; exact fr j⟩
        first | exact hk1.bel (Bel.drew (Bel.refl _)) | exact hk1.bel (Bel.drew (Bel.drew (Bel.refl _)))
    · have hlt' : ¬ (i : Int) < (n : Int) := by omega
      go_wp2
      go_region_held3 (fun w' => Bel V w') (with_reducible (repeat (first | exact g0 | refine Bel.drew ?_ | assumption))) (fail)
      have hH : Bel V V.drew := Bel.drew (Bel.refl _)
      go_wp2
      go_ret
      exact ⟨_, rfl, ⟨x0, x1⟩, bel_step hB2 hH, HO2.out.bel hH, HK.out.bel hH⟩

/-- What a draw leaves: the base's memory, all but the cursor's block, the cursor. -/
structure Drawn (w0 w : World) (B : Nat) (a : Option Addr) (n c : Nat) (w' : World) : Prop where
  b : Bel w0 w'
  o : OnlyB w B w'
  k : Cur w' B a n c
theorem Drawn.then {w0 w : World} {B : Nat} {a : Option Addr} {n c : Nat} {w1 w2 : World} (h : Drawn w0 w B a n c w1) (k : Drawn w0 w1 B a n c w2) : Drawn w0 w B a n c w2 := ⟨k.b, h.o.trans k.o, k.k⟩
theorem byte_any (B : Nat) (a : Option Addr) (n c : Nat) (w0 w : World) (hb : Bel w0 w) (hB : w0.heap.size ≤ B) (hC : Cur w B a n c) (hS : Bts w0 a n) (hn : n ≤ 1048576) :
    Calls Try.prog 23 #[.pointer (some ⟨B, 0, none⟩)] w fun e w' => ∃ x : Int, e = .returned (.int .i64 x) ∧ (0 ≤ x ∧ x ≤ 255) ∧ Drawn w0 w B a n c w' :=
  (l1Byte_any B a n c w0 w hb hB hC hS hn).mono fun _ _ ⟨x, e, h, b, o, k⟩ => ⟨x, e, h, ⟨b, o, k⟩⟩

set_option maxHeartbeats 1000000 in
theorem below_any (B : Nat) (a : Option Addr) (n c : Nat) (w0 w : World) (hb : Bel w0 w) (hB : w0.heap.size ≤ B) (hC : Cur w B a n c) (hS : Bts w0 a n) (hn : n ≤ 1048576) (m : Int) (m0 : 0 < m) (m1 : m ≤ 9223372036854775807) :
    Calls Try.prog 21 #[.pointer (some ⟨B, 0, none⟩), .int .i64 m] w fun e w' => ∃ x : Int, e = .returned (.int .i64 x) ∧ (0 ≤ x ∧ x < m) ∧ Drawn w0 w B a n c w' := by
  have m0' : ¬ m ≤ 0 := by omega
  have mz : ¬ m = 0 := by omega
  have mz' : (m == 0) = false := by simp; omega
  by_cases h : m ≤ 256
  · go_enter Try.func21, Try.ntmps21
    go_wp2_with fail
    refine (byte_any B a n c w0 _ hb hB hC hS hn).mono ?_
    rintro e w1 ⟨x, rfl, ⟨x0, x1⟩, d1⟩
    have D1 : Hid (Drawn w0 w B a n c w1) := d1
    clear d1
    go_wp2
    go_ret
    exact ⟨_, rfl, ⟨Int.emod_nonneg _ mz, Int.emod_lt_of_pos _ m0⟩, D1.out⟩
  · go_enter Try.func21, Try.ntmps21
    go_wp2_with fail
    refine (byte_any B a n c w0 _ hb hB hC hS hn).mono ?_
    rintro e w1 ⟨x, rfl, ⟨x0, x1⟩, d1⟩
    have D1 : Hid (Drawn w0 w B a n c w1) := d1
    clear d1
    go_wp2_with fail
    refine (byte_any B a n c w0 _ D1.out.b hB D1.out.k hS hn).mono ?_
    rintro e w2 ⟨y, rfl, ⟨y0, y1⟩, d2⟩
    have D2 : Hid (Drawn w0 w B a n c w2) := Drawn.then D1.out d2
    clear d2
    go_wp2_with fail
    refine (byte_any B a n c w0 _ D2.out.b hB D2.out.k hS hn).mono ?_
    rintro e w3 ⟨z, rfl, ⟨z0, z1⟩, d3⟩
    have D3 : Hid (Drawn w0 w B a n c w3) := Drawn.then D2.out d3
    clear d3
    go_wp2_with fail
    refine (byte_any B a n c w0 _ D3.out.b hB D3.out.k hS hn).mono ?_
    rintro e w4 ⟨u, rfl, ⟨u0, u1⟩, d4⟩
    have D4 : Hid (Drawn w0 w B a n c w4) := Drawn.then D3.out d4
    clear d4
    go_wp2
    go_ret
    exact ⟨_, rfl, ⟨Int.emod_nonneg _ mz, Int.emod_lt_of_pos _ m0⟩, D4.out⟩

theorem once_any (B : Nat) (a : Option Addr) (n c : Nat) (w0 w : World) (hb : Bel w0 w) (hB : w0.heap.size ≤ B) (hC : Cur w B a n c) (hS : Bts w0 a n) (hn : n ≤ 1048576) (m : Int) (m0 : 0 < m) (m1 : m ≤ 9223372036854775807) :
    Calls Try.prog 22 #[.pointer (some ⟨B, 0, none⟩), .int .i64 m] w fun e w' => ∃ t : Bool, e = .returned (.bool t) ∧ Drawn w0 w B a n c w' := by
  go_enter Try.func22, Try.ntmps22
  go_wp2_with fail
  refine (below_any B a n c w0 _ hb hB hC hS hn m m0 m1).mono ?_
  rintro e w1 ⟨x, rfl, _, d1⟩
  have D1 : Hid (Drawn w0 w B a n c w1) := d1
  clear d1
  go_wp2
  go_ret
  exact ⟨_, rfl, D1.out⟩

set_option maxHeartbeats 1000000 in
theorem l1New_any (a : Option Addr) (n c : Nat) (w : World) (hS : Bts w a n) (hn : n ≤ 1048576) :
    Calls Try.prog 20 #[.slice a n c] w fun e w' => e = .returned (.pointer (some ⟨w.heap.size, 0, none⟩)) ∧ Bel w w' ∧ Cur w' w.heap.size a n c := by
  go_enter Try.func20, Try.ntmps20
  go_wp2
  go_loopw [3, 4] (fun t i wr => ∃ (k : Nat) (h : Int), k ≤ n ∧ (0 ≤ h ∧ h ≤ 1073741823) ∧ t = .int .i64 h ∧ i = .int .i64 k ∧ wr = w) (fun _ i _ => n - (intOf i).toNat)
  case atStart => exact ⟨0, _, Nat.zero_le _, ⟨by omega, by omega⟩, rfl, rfl, rfl⟩
  case round =>
    obtain ⟨k, h, hk, ⟨h0, h1⟩, rfl, rfl, rfl⟩ := hrel
    by_cases hlt : k < n
    · rcases hS with hz | ⟨b, off, rfl, hb, hcs⟩
      · omega
      obtain ⟨v, ⟨v0, v1⟩, hv⟩ := hcs k hlt
      have hlt' : (k : Int) < (n : Int) := by omega
      go_wp2
      go_roundw
      case rel => exact ⟨k + 1, _, by omega, by rw [and30]; omega, rfl, by go_num, trivial⟩
      case measure => simp [intOf]; omega
    · obtain rfl : k = n := by omega
      go_wp2
      go_ret
      exact ⟨rfl, bel_alloc (Bel.refl _) _, ⟨by simp, by simp [go_sem], ⟨0, Nat.zero_le _, by simp [go_sem]⟩, ⟨h, by simp [go_sem]⟩, fun j => by simp⟩⟩
end Go.Proofs.Ytonedkibbdbgjaa
