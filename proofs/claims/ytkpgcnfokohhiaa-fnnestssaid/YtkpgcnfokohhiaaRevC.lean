/-
  Contract of slices.Reverse at a row of points.
-/
import Derived.Test.YtkpgcnfokohhiaaMarkN
import Derived.Test.YtkpgcnfokohhiaaRngD
import Derived.Deep.RegionHeld3
namespace Go.Proofs.Ytkpgcnfokohhiaa
open Go.RowKit Go.Maps

/-- The row when k pairs have changed places. -/
def rvD (l : List PtD) (n k i : Nat) : PtD := if i < k ∨ n ≤ i + k then l.getD (n - 1 - i) ⟨0, 0⟩ else l.getD i ⟨0, 0⟩
theorem rvD_zero (l : List PtD) (n : Nat) {i : Nat} (h : i < n) : rvD l n 0 i = l.getD i ⟨0, 0⟩ := by unfold rvD; rw [if_neg (by omega)]
theorem rvD_step {l : List PtD} {n k m : Nat} (h : n = k + m + 1) (hk : k < m) (i : Nat) : (if i = m then l.getD k ⟨0, 0⟩ else if i = k then l.getD m ⟨0, 0⟩ else rvD l n k i) = rvD l n (k + 1) i := by
  unfold rvD
  by_cases e1 : i = m
  · subst e1; rw [if_pos rfl, if_pos (by omega), show n - 1 - i = k by omega]
  · rw [if_neg e1]
    by_cases e2 : i = k
    · subst e2; rw [if_pos rfl, if_pos (by omega), show n - 1 - i = m by omega]
    · rw [if_neg e2]
      by_cases e3 : i < k ∨ n ≤ i + k
      · rw [if_pos e3, if_pos (by omega)]
      · rw [if_neg e3, if_neg (by omega)]
theorem rvD_end {l : List PtD} {n k : Nat} (hl : l.length = n) (h : n ≤ 2 * k + 1) {i : Nat} (hi : i < l.reverse.length) : rvD l n k i = l.reverse[i] := by
  have hi' : i < n := by rw [← hl]; simpa using hi
  rw [List.getElem_reverse]
  unfold rvD
  by_cases e : i < k ∨ n ≤ i + k
  · rw [if_pos e, getD_at _ (by omega)]
    congr 1
    omega
  · rw [if_neg e, getD_at _ (by omega)]
    congr 1
    omega

set_option maxRecDepth 100000 in
set_option maxHeartbeats 4000000 in
theorem reverse_any (a : Option Addr) (n c : Nat) (l : List PtD) (bs : List Nat) (w : World) (hT : PtL w a l bs) (hf : ∀ x ∈ bs, ∀ j, w.frozen? ⟨x, j, none⟩ = false) (hn : l.length = n) (hm : n ≤ 1048576) :
    Calls Try.prog 38 #[.slice a n c] w fun e w' => e = .returned (.tuple #[]) ∧ PtL w' a l.reverse bs ∧ (∀ x ∈ bs, ∀ j, w'.frozen? ⟨x, j, none⟩ = false) ∧ Onl bs w w' := by
  by_cases h0 : n = 0
  · subst h0
    obtain rfl : l = [] := List.length_eq_zero_iff.1 hn
    go_enter Try.func38, Try.ntmps38
    go_wp2
    go_loopw [2, 3] (fun i j wr => i = .int .i64 0 ∧ j = .int .i64 (-1) ∧ wr = w) (fun _ _ _ => 0)
    case atStart => exact ⟨rfl, rfl, rfl⟩
    case round =>
      obtain ⟨rfl, rfl, rfl⟩ := hrel
      go_wp2
      go_end0
      exact ⟨rfl, hT, hf, Onl.refl _ _⟩
  · rcases hT with ⟨rfl, _⟩ | ⟨b, off, f, rfl, hb, hbs, hx⟩
    · exact absurd hn.symm h0
    · have hfe : ∀ i, i < n → f i = [] := fun i hi => (hx i (by omega)).1
      have hfam : Fam 2 PtE w b off n (rvD l n 0) f := fun i hi => by
        show PtE w b (off + i * 2) (rvD l n 0 i) (f i)
        rw [rvD_zero l n hi, getD_at ⟨0, 0⟩ (show i < l.length by omega)]
        exact hx i (by omega)
      have hbf : ∀ j, w.frozen? ⟨b, j, none⟩ = false := hf b (by rw [hbs]; simp)
      have Hn : Hid (l.length = n) := hn
      have HBS : Hid (bs = b :: (List.range l.length).flatMap f) := hbs
      clear hn hx hf hbs
      go_enter Try.func38, Try.ntmps38
      go_wp2
      go_loopw [2, 3] (fun i j wr => ∃ k : Nat, k ≤ n ∧ i = .int .i64 k ∧ j = .int .i64 ((n : Int) - 1 - k) ∧ Fam 2 PtE wr b off n (rvD l n k) f ∧ (∀ x, wr.frozen? ⟨b, x, none⟩ = false) ∧ Onl [b] w wr) (fun i _ _ => n - (intOf i).toNat)
      case atStart => exact ⟨0, Nat.zero_le _, rfl, by simp, hfam, hbf, Onl.refl _ _⟩
      case round =>
        obtain ⟨k, hk, rfl, rfl, hF, hfr, hO⟩ := hrel
        have hbr := Nat.lt_of_lt_of_le hb hO.size
        by_cases hlt : k + k + 1 < n
        · obtain ⟨m, hmn⟩ : ∃ m, n = k + m + 1 := ⟨n - 1 - k, by omega⟩
          have hkm : k < m := by omega
          have ek : rvD l n k k = l.getD k ⟨0, 0⟩ := by unfold rvD; rw [if_neg (by omega)]
          have em : rvD l n k m = l.getD m ⟨0, 0⟩ := by unfold rvD; rw [if_neg (by omega)]
          have hFk := hF k (by omega)
          have hFm := hF m (by omega)
          rw [ek] at hFk
          rw [em] at hFm
          have HST : Hid (∀ i, (if i = m then l.getD k ⟨0, 0⟩ else if i = k then l.getD m ⟨0, 0⟩ else rvD l n k i) = rvD l n (k + 1) i) := rvD_step hmn hkm
          obtain ⟨p, Hp⟩ : ∃ p, Hid (l.getD k ⟨0, 0⟩ = p) := ⟨_, (rfl : l.getD k ⟨0, 0⟩ = _)⟩
          obtain ⟨q, Hq⟩ : ∃ q, Hid (l.getD m ⟨0, 0⟩ = q) := ⟨_, (rfl : l.getD m ⟨0, 0⟩ = _)⟩
          rw [Hp.out] at hFk HST
          rw [Hq.out] at hFm HST
          obtain ⟨_, p1, p2, cx, cy⟩ := hFk
          obtain ⟨_, q1, q2, dx, dy⟩ := hFm
          have f0 := hfr (off + k * 2)
          have f1 := hfr (off + k * 2 + 1)
          have f2 := hfr (off + m * 2)
          have f3 := hfr (off + m * 2 + 1)
          have hj : ((n : Int) - 1 - (k : Int)) = (m : Int) := by omega
          have HJ : Hid ((n : Int) - 1 - ((k + 1 : Nat) : Int) = (m : Int) - 1) := (by omega : (n : Int) - 1 - ((k + 1 : Nat) : Int) = (m : Int) - 1)
          rw [hj]
          have hkm' : (k : Int) < (m : Int) := by omega
          have hkn' : (k : Int) < (n : Int) := by omega
          have hk0 : (0 : Int) ≤ (k : Int) := by omega
          have hm0 : (0 : Int) ≤ (m : Int) := by omega
          have hkn : k < n := by omega
          have hmn2 : m < n := by omega
          have hmn' : (m : Int) < (n : Int) := by omega
          obtain ⟨W1, HW1⟩ : ∃ V : World, Hid (V = setRow wr b (off + k * 2) [.int .i64 q.x, .int .i64 q.y]) := ⟨_, (rfl : setRow wr b (off + k * 2) [.int .i64 q.x, .int .i64 q.y] = _)⟩
          obtain ⟨W2, HW2'⟩ : ∃ V : World, Hid (V = setRow W1 b (off + m * 2) [.int .i64 p.x, .int .i64 p.y]) := ⟨_, (rfl : setRow W1 b (off + m * 2) [.int .i64 p.x, .int .i64 p.y] = _)⟩
          have HW2 : Hid (W2 = (((wr.setCell ⟨b, off + k * 2, none⟩ (.int .i64 q.x)).setCell ⟨b, off + k * 2 + 1, none⟩ (.int .i64 q.y)).setCell ⟨b, off + m * 2, none⟩ (.int .i64 p.x)).setCell ⟨b, off + m * 2 + 1, none⟩ (.int .i64 p.y)) := by rw [HW2'.out, HW1.out]; exact rfl
          have hin1 := setRow_in b [.int .i64 q.x, .int .i64 q.y] wr (off + k * 2) (fun i hi => by
            match i, hi with
            | 0, _ => exact ⟨_, cx⟩
            | 1, _ => exact ⟨_, cy⟩)
          have HFm1 : Fam 2 PtE W1 b off n (fun i => if i = k then q else rvD l n k i) f := by
            refine Fam.step ptE hF (w' := W1) (j := k) q (fun o ho => by rw [HW1.out, setRow_out _ _ _ _ _ (by simp; omega)]) (fun i hi _ => by rw [hfe i hi]; exact fun x hx => nomatch hx) ?_
            rw [hfe k (by omega)]
            exact ⟨rfl, q1, q2, by rw [HW1.out]; exact hin1 0 (by simp), by rw [HW1.out]; exact hin1 1 (by simp)⟩
          have hin2 := setRow_in b [.int .i64 p.x, .int .i64 p.y] W1 (off + m * 2) (fun i hi => by
            have hq := HFm1 m (by omega)
            simp only [if_neg (show ¬ m = k by omega)] at hq
            match i, hi with
            | 0, _ => exact ⟨_, hq.2.2.2.1⟩
            | 1, _ => exact ⟨_, hq.2.2.2.2⟩)
          have HF2 : Hid (Fam 2 PtE W2 b off n (rvD l n (k + 1)) f) := by
            have h2 : Fam 2 PtE W2 b off n (fun i => if i = m then p else if i = k then q else rvD l n k i) f := by
              refine Fam.step ptE HFm1 (w' := W2) (j := m) p (fun o ho => by rw [HW2'.out, setRow_out _ _ _ _ _ (by simp; omega)]) (fun i hi _ => by rw [hfe i hi]; exact fun x hx => nomatch hx) ?_
              rw [hfe m (by omega)]
              exact ⟨rfl, p1, p2, by rw [HW2'.out]; exact hin2 0 (by simp), by rw [HW2'.out]; exact hin2 1 (by simp)⟩
            rw [funext HST.out] at h2
            exact h2
          have HFR2 : Hid (∀ x, W2.frozen? ⟨b, x, none⟩ = false) := fun x => by rw [HW2'.out, setRow_frozen, HW1.out, setRow_frozen]; exact hfr x
          have hO2 : Onl [b] w W2 := by
            rw [HW2.out]
            exact ((((hO.set (b := b) (by simp) _ _).set (b := b) (by simp) _ _).set (b := b) (by simp) _ _).set (b := b) (by simp) _ _)
          have HF2d : Hid (Fam 2 PtE W2.drew b off n (rvD l n (k + 1)) f) := HF2.out
          have HFR2d : Hid (∀ x, W2.drew.frozen? ⟨b, x, none⟩ = false) := HFR2.out
          have hO2d : Onl [b] w W2.drew := hO2.bel (Bel.drew (Bel.refl _))
          have hne1 : ¬ off + k * 2 = off + m * 2 := by omega
          clear hF hin1 hin2 HFm1 hO ek em hmn hj hlt
          go_wp2
          refine wp_region_noPanic ?_
          refine wp_region_held_drew (S := fun _ => True) (by kernel_rfl) trivial (fun hHeld => ?_)
          refine wpAnyH_take (S := fun _ => True) (i := 0) (oi := { dst := some 14, op := Go.Op.move (Go.Operand.tmp 0), type := 30, pos := "slices.go:485", after := #[], guard := none }) (v := ?vz1) rfl (by kernel_rfl) (by kernel_rfl) (by kernel_rfl) (fun _ _ _ h => h) (Or.inl ⟨by rfl, ?hz1⟩) trivial ?rz1
          case hz1 => (intro w hSw; (try dsimp only at hSw); go_simp; try with_reducible rfl)
          try simp only [Act.put, List.setIfInBounds_toArray, List.set_cons_zero, List.set_cons_succ]
          refine wpAnyH_take (S := fun _ => True) (i := 1) (oi := { dst := some 15, op := Go.Op.move (Go.Operand.tmp 2), type := 3, pos := "slices.go:485", after := #[], guard := none }) (v := ?vz2) rfl (by kernel_rfl) (by kernel_rfl) (by kernel_rfl) (fun _ _ _ h => h) (Or.inl ⟨by rfl, ?hz2⟩) trivial ?rz2
          case hz2 => (intro w hSw; (try dsimp only at hSw); go_simp; try with_reducible rfl)
          try simp only [Act.put, List.setIfInBounds_toArray, List.set_cons_zero, List.set_cons_succ]
          refine wpAnyH_take (S := fun _ => True) (i := 2) (oi := { dst := some 16, op := Go.Op.move (Go.Operand.tmp 0), type := 30, pos := "slices.go:485", after := #[{ on := 13, ground := Go.Ground.gcOnly Go.Departure.lateStores }], guard := none }) (v := ?vz3) rfl (by kernel_rfl) (by kernel_rfl) (by kernel_rfl) (fun _ _ _ h => h) (Or.inl ⟨by rfl, ?hz3⟩) trivial ?rz3
          case hz3 => (intro w hSw; (try dsimp only at hSw); go_simp; try with_reducible rfl)
          try simp only [Act.put, List.setIfInBounds_toArray, List.set_cons_zero, List.set_cons_succ]
          refine wpAnyH_take (S := fun _ => True) (i := 3) (oi := { dst := some 17, op := Go.Op.move (Go.Operand.tmp 3), type := 3, pos := "slices.go:485", after := #[{ on := 13, ground := Go.Ground.gcOnly Go.Departure.lateStores }], guard := none }) (v := ?vz4) rfl (by kernel_rfl) (by kernel_rfl) (by kernel_rfl) (fun _ _ _ h => h) (Or.inl ⟨by rfl, ?hz4⟩) trivial ?rz4
          case hz4 => (intro w hSw; (try dsimp only at hSw); go_simp; try with_reducible rfl)
          try simp only [Act.put, List.setIfInBounds_toArray, List.set_cons_zero, List.set_cons_succ]
          refine wpAnyH_take (S := fun _ => True) (i := 4) (oi := { dst := some 18, op := Go.Op.move (Go.Operand.tmp 0), type := 30, pos := "slices.go:485", after := #[], guard := none }) (v := ?vz5) rfl (by kernel_rfl) (by kernel_rfl) (by kernel_rfl) (fun _ _ _ h => h) (Or.inl ⟨by rfl, ?hz5⟩) trivial ?rz5
          case hz5 => (intro w hSw; (try dsimp only at hSw); go_simp; try with_reducible rfl)
          try simp only [Act.put, List.setIfInBounds_toArray, List.set_cons_zero, List.set_cons_succ]
          refine wpAnyH_take (S := fun _ => True) (i := 5) (oi := { dst := some 19, op := Go.Op.move (Go.Operand.tmp 3), type := 3, pos := "slices.go:485", after := #[], guard := none }) (v := ?vz6) rfl (by kernel_rfl) (by kernel_rfl) (by kernel_rfl) (fun _ _ _ h => h) (Or.inl ⟨by rfl, ?hz6⟩) trivial ?rz6
          case hz6 => (intro w hSw; (try dsimp only at hSw); go_simp; try with_reducible rfl)
          try simp only [Act.put, List.setIfInBounds_toArray, List.set_cons_zero, List.set_cons_succ]
          refine wpAnyH_take (S := fun _ => True) (i := 6) (oi := { dst := some 20, op := Go.Op.indexAddr 30 (Go.Operand.tmp 18) (Go.Operand.tmp 19), type := 0, pos := "slices.go:485", after := #[{ on := 4, ground := Go.Ground.data }, { on := 5, ground := Go.Ground.data }], guard := none }) (v := ?vz7) rfl (by kernel_rfl) (by kernel_rfl) (by kernel_rfl) (fun _ _ _ h => h) (Or.inl ⟨by rfl, ?hz7⟩) trivial ?rz7
          case hz7 => (intro w hSw; (try dsimp only at hSw); go_simp; try with_reducible rfl)
          try simp only [Act.put, List.setIfInBounds_toArray, List.set_cons_zero, List.set_cons_succ]
          refine wpAnyH_take (S := fun _ => True) (i := 8) (oi := { dst := some 22, op := Go.Op.move (Go.Operand.tmp 0), type := 30, pos := "slices.go:485", after := #[], guard := none }) (v := ?vz8) rfl (by kernel_rfl) (by kernel_rfl) (by kernel_rfl) (fun _ _ _ h => h) (Or.inl ⟨by rfl, ?hz8⟩) trivial ?rz8
          case hz8 => (intro w hSw; (try dsimp only at hSw); go_simp; try with_reducible rfl)
          try simp only [Act.put, List.setIfInBounds_toArray, List.set_cons_zero, List.set_cons_succ]
          refine wpAnyH_take (S := fun _ => True) (i := 9) (oi := { dst := some 23, op := Go.Op.move (Go.Operand.tmp 2), type := 3, pos := "slices.go:485", after := #[], guard := none }) (v := ?vz9) rfl (by kernel_rfl) (by kernel_rfl) (by kernel_rfl) (fun _ _ _ h => h) (Or.inl ⟨by rfl, ?hz9⟩) trivial ?rz9
          case hz9 => (intro w hSw; (try dsimp only at hSw); go_simp; try with_reducible rfl)
          try simp only [Act.put, List.setIfInBounds_toArray, List.set_cons_zero, List.set_cons_succ]
          refine wpAnyH_take (S := fun _ => True) (i := 10) (oi := { dst := some 24, op := Go.Op.indexAddr 30 (Go.Operand.tmp 22) (Go.Operand.tmp 23), type := 0, pos := "slices.go:485", after := #[{ on := 8, ground := Go.Ground.data }, { on := 9, ground := Go.Ground.data }], guard := none }) (v := ?vz10) rfl (by kernel_rfl) (by kernel_rfl) (by kernel_rfl) (fun _ _ _ h => h) (Or.inl ⟨by rfl, ?hz10⟩) trivial ?rz10
          case hz10 => (intro w hSw; (try dsimp only at hSw); go_simp; try with_reducible rfl)
          try simp only [Act.put, List.setIfInBounds_toArray, List.set_cons_zero, List.set_cons_succ]
          refine wpAnyH_ready (rs := [7, 11]) (by kernel_rfl) (by simp) ?_
          refine AllReadyH.cons (o := { dst := some 21, op := Go.Op.load 26 (Go.Operand.tmp 20), type := 26, pos := "slices.go:485", after := #[{ on := 6, ground := Go.Ground.data }], guard := none }) rfl (fun K hK => ?_) (AllReadyH.cons (o := { dst := some 25, op := Go.Op.load 26 (Go.Operand.tmp 24), type := 26, pos := "slices.go:485", after := #[{ on := 10, ground := Go.Ground.data }], guard := none }) rfl (fun K hK => ?_) AllReadyH.nil)
          · go_simp
            refine hK.out _ _ trivial (fun _ => ?_)
            clear hK K
            try simp only [Act.put, List.setIfInBounds_toArray, List.set_cons_zero, List.set_cons_succ]
            refine wpAnyH_ready (rs := [11]) (by kernel_rfl) (by simp) ?_
            refine AllReadyH.cons (o := { dst := some 25, op := Go.Op.load 26 (Go.Operand.tmp 24), type := 26, pos := "slices.go:485", after := #[{ on := 10, ground := Go.Ground.data }], guard := none }) rfl (fun K hK => ?_) AllReadyH.nil
            go_simp
            refine hK.out _ _ trivial (fun _ => ?_)
            clear hK K
            try simp only [Act.put, List.setIfInBounds_toArray, List.set_cons_zero, List.set_cons_succ]
            refine wpAnyH_take (S := fun _ => True) (i := 12) (oi := { dst := some 26, op := Go.Op.indexAddr 30 (Go.Operand.tmp 14) (Go.Operand.tmp 15), type := 0, pos := "slices.go:485", after := #[{ on := 0, ground := Go.Ground.data }, { on := 1, ground := Go.Ground.data }, { on := 0, ground := Go.Ground.phase }, { on := 1, ground := Go.Ground.phase }, { on := 2, ground := Go.Ground.textOnly Go.Departure.lateStores }, { on := 3, ground := Go.Ground.textOnly Go.Departure.lateStores }, { on := 4, ground := Go.Ground.phase }, { on := 5, ground := Go.Ground.phase }, { on := 6, ground := Go.Ground.phase }, { on := 7, ground := Go.Ground.phase }, { on := 8, ground := Go.Ground.textOnly Go.Departure.lateStores }, { on := 9, ground := Go.Ground.textOnly Go.Departure.lateStores }, { on := 10, ground := Go.Ground.textOnly Go.Departure.lateStoresUnsure }, { on := 11, ground := Go.Ground.phase }], guard := none }) (v := ?vz11) rfl (by kernel_rfl) (by kernel_rfl) (by kernel_rfl) (fun _ _ _ h => h) (Or.inl ⟨by rfl, ?hz11⟩) trivial ?rz11
            case hz11 => (intro w hSw; (try dsimp only at hSw); go_simp; try with_reducible rfl)
            try simp only [Act.put, List.setIfInBounds_toArray, List.set_cons_zero, List.set_cons_succ]
            refine wpAnyH_ready (rs := [13]) (by kernel_rfl) (by simp) ?_
            refine AllReadyH.cons (o := { dst := none, op := Go.Op.store 26 (Go.Operand.tmp 26) (Go.Operand.tmp 21), type := 0, pos := "slices.go:485", after := #[{ on := 12, ground := Go.Ground.data }, { on := 7, ground := Go.Ground.data }, { on := 0, ground := Go.Ground.phase }, { on := 1, ground := Go.Ground.phase }, { on := 2, ground := Go.Ground.textOnly Go.Departure.lateStores }, { on := 3, ground := Go.Ground.textOnly Go.Departure.lateStores }, { on := 4, ground := Go.Ground.phase }, { on := 5, ground := Go.Ground.phase }, { on := 6, ground := Go.Ground.phase }, { on := 7, ground := Go.Ground.phase }, { on := 8, ground := Go.Ground.textOnly Go.Departure.lateStores }, { on := 9, ground := Go.Ground.textOnly Go.Departure.lateStores }, { on := 10, ground := Go.Ground.textOnly Go.Departure.lateStoresUnsure }, { on := 11, ground := Go.Ground.phase }], guard := none }) rfl (fun K hK => ?_) AllReadyH.nil
            go_simp
            refine hK.out _ _ trivial (fun _ => ?_)
            clear hK K
            try simp only [Act.put, List.setIfInBounds_toArray, List.set_cons_zero, List.set_cons_succ]
            refine wpAnyH_take (S := fun _ => True) (i := 14) (oi := { dst := some 27, op := Go.Op.indexAddr 30 (Go.Operand.tmp 16) (Go.Operand.tmp 17), type := 0, pos := "slices.go:485", after := #[{ on := 2, ground := Go.Ground.data }, { on := 3, ground := Go.Ground.data }, { on := 0, ground := Go.Ground.phase }, { on := 1, ground := Go.Ground.phase }, { on := 2, ground := Go.Ground.phase }, { on := 3, ground := Go.Ground.phase }, { on := 4, ground := Go.Ground.phase }, { on := 5, ground := Go.Ground.phase }, { on := 6, ground := Go.Ground.phase }, { on := 7, ground := Go.Ground.phase }, { on := 8, ground := Go.Ground.phase }, { on := 9, ground := Go.Ground.phase }, { on := 10, ground := Go.Ground.phase }, { on := 11, ground := Go.Ground.phase }, { on := 12, ground := Go.Ground.phase }, { on := 13, ground := Go.Ground.phase }], guard := none }) (v := ?vz12) rfl (by kernel_rfl) (by kernel_rfl) (by kernel_rfl) (fun _ _ _ h => h) (Or.inl ⟨by rfl, ?hz12⟩) trivial ?rz12
            case hz12 => (intro w hSw; (try dsimp only at hSw); go_simp; try with_reducible rfl)
            try simp only [Act.put, List.setIfInBounds_toArray, List.set_cons_zero, List.set_cons_succ]
            refine wpAnyH_ready (rs := [15]) (by kernel_rfl) (by simp) ?_
            refine AllReadyH.cons (o := { dst := none, op := Go.Op.store 26 (Go.Operand.tmp 27) (Go.Operand.tmp 25), type := 0, pos := "slices.go:485", after := #[{ on := 14, ground := Go.Ground.data }, { on := 11, ground := Go.Ground.data }, { on := 13, ground := Go.Ground.chain }, { on := 0, ground := Go.Ground.phase }, { on := 1, ground := Go.Ground.phase }, { on := 2, ground := Go.Ground.phase }, { on := 3, ground := Go.Ground.phase }, { on := 4, ground := Go.Ground.phase }, { on := 5, ground := Go.Ground.phase }, { on := 6, ground := Go.Ground.phase }, { on := 7, ground := Go.Ground.phase }, { on := 8, ground := Go.Ground.phase }, { on := 9, ground := Go.Ground.phase }, { on := 10, ground := Go.Ground.phase }, { on := 11, ground := Go.Ground.phase }, { on := 12, ground := Go.Ground.phase }, { on := 13, ground := Go.Ground.phase }], guard := none }) rfl (fun K hK => ?_) AllReadyH.nil
            go_simp
            refine hK.out _ _ trivial (fun _ => ?_)
            clear hK K
            try simp only [Act.put, List.setIfInBounds_toArray, List.set_cons_zero, List.set_cons_succ]
            refine wpAnyH_done (by kernel_rfl) ?_ _
            refine NoPanic.normal ?_
            rw [← HW2.out]
            go_wp2
            go_roundw
            case rel => exact ⟨k + 1, by omega, by go_num, by rw [HJ.out], HF2d.out, HFR2d.out, hO2d⟩
            case measure => simp [intOf]; omega
          · go_simp
            refine hK.out _ _ trivial (fun _ => ?_)
            clear hK K
            try simp only [Act.put, List.setIfInBounds_toArray, List.set_cons_zero, List.set_cons_succ]
            refine wpAnyH_ready (rs := [7]) (by kernel_rfl) (by simp) ?_
            refine AllReadyH.cons (o := { dst := some 21, op := Go.Op.load 26 (Go.Operand.tmp 20), type := 26, pos := "slices.go:485", after := #[{ on := 6, ground := Go.Ground.data }], guard := none }) rfl (fun K hK => ?_) AllReadyH.nil
            go_simp
            refine hK.out _ _ trivial (fun _ => ?_)
            clear hK K
            try simp only [Act.put, List.setIfInBounds_toArray, List.set_cons_zero, List.set_cons_succ]
            refine wpAnyH_take (S := fun _ => True) (i := 12) (oi := { dst := some 26, op := Go.Op.indexAddr 30 (Go.Operand.tmp 14) (Go.Operand.tmp 15), type := 0, pos := "slices.go:485", after := #[{ on := 0, ground := Go.Ground.data }, { on := 1, ground := Go.Ground.data }, { on := 0, ground := Go.Ground.phase }, { on := 1, ground := Go.Ground.phase }, { on := 2, ground := Go.Ground.textOnly Go.Departure.lateStores }, { on := 3, ground := Go.Ground.textOnly Go.Departure.lateStores }, { on := 4, ground := Go.Ground.phase }, { on := 5, ground := Go.Ground.phase }, { on := 6, ground := Go.Ground.phase }, { on := 7, ground := Go.Ground.phase }, { on := 8, ground := Go.Ground.textOnly Go.Departure.lateStores }, { on := 9, ground := Go.Ground.textOnly Go.Departure.lateStores }, { on := 10, ground := Go.Ground.textOnly Go.Departure.lateStoresUnsure }, { on := 11, ground := Go.Ground.phase }], guard := none }) (v := ?vz13) rfl (by kernel_rfl) (by kernel_rfl) (by kernel_rfl) (fun _ _ _ h => h) (Or.inl ⟨by rfl, ?hz13⟩) trivial ?rz13
            case hz13 => (intro w hSw; (try dsimp only at hSw); go_simp; try with_reducible rfl)
            try simp only [Act.put, List.setIfInBounds_toArray, List.set_cons_zero, List.set_cons_succ]
            refine wpAnyH_ready (rs := [13]) (by kernel_rfl) (by simp) ?_
            refine AllReadyH.cons (o := { dst := none, op := Go.Op.store 26 (Go.Operand.tmp 26) (Go.Operand.tmp 21), type := 0, pos := "slices.go:485", after := #[{ on := 12, ground := Go.Ground.data }, { on := 7, ground := Go.Ground.data }, { on := 0, ground := Go.Ground.phase }, { on := 1, ground := Go.Ground.phase }, { on := 2, ground := Go.Ground.textOnly Go.Departure.lateStores }, { on := 3, ground := Go.Ground.textOnly Go.Departure.lateStores }, { on := 4, ground := Go.Ground.phase }, { on := 5, ground := Go.Ground.phase }, { on := 6, ground := Go.Ground.phase }, { on := 7, ground := Go.Ground.phase }, { on := 8, ground := Go.Ground.textOnly Go.Departure.lateStores }, { on := 9, ground := Go.Ground.textOnly Go.Departure.lateStores }, { on := 10, ground := Go.Ground.textOnly Go.Departure.lateStoresUnsure }, { on := 11, ground := Go.Ground.phase }], guard := none }) rfl (fun K hK => ?_) AllReadyH.nil
            go_simp
            refine hK.out _ _ trivial (fun _ => ?_)
            clear hK K
            try simp only [Act.put, List.setIfInBounds_toArray, List.set_cons_zero, List.set_cons_succ]
            refine wpAnyH_take (S := fun _ => True) (i := 14) (oi := { dst := some 27, op := Go.Op.indexAddr 30 (Go.Operand.tmp 16) (Go.Operand.tmp 17), type := 0, pos := "slices.go:485", after := #[{ on := 2, ground := Go.Ground.data }, { on := 3, ground := Go.Ground.data }, { on := 0, ground := Go.Ground.phase }, { on := 1, ground := Go.Ground.phase }, { on := 2, ground := Go.Ground.phase }, { on := 3, ground := Go.Ground.phase }, { on := 4, ground := Go.Ground.phase }, { on := 5, ground := Go.Ground.phase }, { on := 6, ground := Go.Ground.phase }, { on := 7, ground := Go.Ground.phase }, { on := 8, ground := Go.Ground.phase }, { on := 9, ground := Go.Ground.phase }, { on := 10, ground := Go.Ground.phase }, { on := 11, ground := Go.Ground.phase }, { on := 12, ground := Go.Ground.phase }, { on := 13, ground := Go.Ground.phase }], guard := none }) (v := ?vz14) rfl (by kernel_rfl) (by kernel_rfl) (by kernel_rfl) (fun _ _ _ h => h) (Or.inl ⟨by rfl, ?hz14⟩) trivial ?rz14
            case hz14 => (intro w hSw; (try dsimp only at hSw); go_simp; try with_reducible rfl)
            try simp only [Act.put, List.setIfInBounds_toArray, List.set_cons_zero, List.set_cons_succ]
            refine wpAnyH_ready (rs := [15]) (by kernel_rfl) (by simp) ?_
            refine AllReadyH.cons (o := { dst := none, op := Go.Op.store 26 (Go.Operand.tmp 27) (Go.Operand.tmp 25), type := 0, pos := "slices.go:485", after := #[{ on := 14, ground := Go.Ground.data }, { on := 11, ground := Go.Ground.data }, { on := 13, ground := Go.Ground.chain }, { on := 0, ground := Go.Ground.phase }, { on := 1, ground := Go.Ground.phase }, { on := 2, ground := Go.Ground.phase }, { on := 3, ground := Go.Ground.phase }, { on := 4, ground := Go.Ground.phase }, { on := 5, ground := Go.Ground.phase }, { on := 6, ground := Go.Ground.phase }, { on := 7, ground := Go.Ground.phase }, { on := 8, ground := Go.Ground.phase }, { on := 9, ground := Go.Ground.phase }, { on := 10, ground := Go.Ground.phase }, { on := 11, ground := Go.Ground.phase }, { on := 12, ground := Go.Ground.phase }, { on := 13, ground := Go.Ground.phase }], guard := none }) rfl (fun K hK => ?_) AllReadyH.nil
            go_simp
            refine hK.out _ _ trivial (fun _ => ?_)
            clear hK K
            try simp only [Act.put, List.setIfInBounds_toArray, List.set_cons_zero, List.set_cons_succ]
            refine wpAnyH_done (by kernel_rfl) ?_ _
            refine NoPanic.normal ?_
            rw [← HW2.out]
            go_wp2
            go_roundw
            case rel => exact ⟨k + 1, by omega, by go_num, by rw [HJ.out], HF2d.out, HFR2d.out, hO2d⟩
            case measure => simp [intOf]; omega
        · have HN : Hid (n ≤ 2 * k + 1) := (by omega : n ≤ 2 * k + 1)
          have HS : Hid (PtL wr (some ⟨b, off, none⟩) l.reverse bs) := by
            rw [HBS.out, Hn.out]
            exact Sl.fam hF hbr (by rw [List.length_reverse]; exact Hn.out) (fun i hi => rvD_end Hn.out HN.out hi)
          have HR : Hid (∀ x ∈ bs, ∀ j, wr.frozen? ⟨x, j, none⟩ = false) := fun x hx j => by
            rw [HBS.out] at hx
            rcases List.mem_cons.1 hx with rfl | hx
            · exact hfr j
            · obtain ⟨i, hi, hx⟩ := List.mem_flatMap.1 hx
              rw [hfe i (by rw [← Hn.out]; exact List.mem_range.1 hi)] at hx
              exact nomatch hx
          have HO : Hid (Onl bs w wr) := hO.mono (fun x hx => by rw [HBS.out]; simp at hx; simp [hx])
          have hge : ¬ (k : Int) < (n : Int) - 1 - (k : Int) := by omega
          clear hF hO
          go_wp2
          go_end0
          exact ⟨rfl, HS.out, HR.out, HO.out⟩
end Go.Proofs.Ytkpgcnfokohhiaa

