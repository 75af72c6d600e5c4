/-
  Contracts of the question whether Ids ascend, for nodes, ways and areas: for every list.
-/
import Derived.Test.YtmmapkpieimibaaGreatRecE
import Derived.Deep.LoopGhost
namespace Go.Proofs.YtmmapkpieimibaaGreat
open Go.RowKit

theorem asc_pos {n : Nat} {I : Nat → Int} {T : Nat → Bool} (h : AscP n I T) : ∀ k, k < n → 0 < I k
  | 0, hk => (h 0 hk).1
  | k + 1, hk => Int.lt_trans (asc_pos h k (by omega)) (h (k + 1) hk).1
theorem folB_at {n k : Nat} {I : Nat → Int} {T : Nat → Bool} (hk : k < n) (h : folB (prevI I k) (I k) (T k) = false) : bP (AscP n I T) = false :=
  bP_false fun hh => by have := hh k hk; have := asc_pos hh k hk; simp_all [folB, idK]
theorem folB_out {p i : Int} {t : Bool} (h : folB p i t = true) : p < i ∧ i ≤ 1000000000 ∧ t = true := by
  have h' : p < i ∧ (0 < i ∧ i ≤ 1000000000) ∧ t = true := by simpa [folB, idK] using h
  exact ⟨h'.1, h'.2.1.2, h'.2.2⟩

theorem methN_key (id : Int) (a : Option Addr) (n c : Nat) (x y : Int) (w : World) : (method 323 91 (.agg #[.int .i64 id, .slice a n c, .int .i64 x, .int .i64 y]) "loop.example/g00024/impl.key").run Tryz.prog w = .ok (148, .agg #[.int .i64 id, .slice a n c]) w := by kernel_rfl
theorem methN_fol (id : Int) (a : Option Addr) (n c : Nat) (x y : Int) (w : World) : (method 323 91 (.agg #[.int .i64 id, .slice a n c, .int .i64 x, .int .i64 y]) "loop.example/g00024/impl.follows").run Tryz.prog w = .ok (147, .agg #[.int .i64 id, .slice a n c]) w := by kernel_rfl

set_option maxRecDepth 100000 in
set_option maxHeartbeats 1000000 in
theorem ascN_any (a : Option Addr) (n c : Nat) (l : List NodeD) (bs : List Nat) (w : World) (hT : NRecs w a l bs) (hn : l.length = n) (hm : n ≤ 1048576) (hs : ∀ i (h : i < l.length), l[i].tags.length ≤ 1048576) :
    Calls Tryz.prog 108 #[.slice a n c] w fun e w' => e = .returned (.bool (bP (AscP n (nId l) (nTg l)))) ∧ Bel w w' := by
  have Hn : Hid (l.length = n) := hn
  clear hn
  have hmk := methN_key
  have hmf := methN_fol
  go_enter Tryz.func108, Tryz.ntmps108
  go_wp2
  go_loopw [3, 5, 8] (fun t _ i wr => ∃ k : Nat, k ≤ n ∧ i = .int .i64 k ∧ t = .int .i64 (prevI (nId l) k) ∧ (∀ j, j < k → prevI (nId l) j < nId l j ∧ nId l j ≤ 1000000000 ∧ nTg l j = true) ∧ Bel w wr) (fun _ _ i _ => n - (intOf i).toNat)
  case atStart => exact ⟨0, Nat.zero_le _, rfl, rfl, fun j hj => absurd hj (Nat.not_lt_zero _), Bel.refl _⟩
  case round =>
    obtain ⟨k, hk, rfl, rfl, hall, hbel⟩ := hrel
    have H : Hid (∀ j, j < k → prevI (nId l) j < nId l j ∧ nId l j ≤ 1000000000 ∧ nTg l j = true) := hall
    clear hall
    by_cases hlt : k < n
    · have hkl : k < l.length := by rw [Hn.out]; exact hlt
      obtain ⟨b, off, f, rfl, hb, hx⟩ := (hT.bel nRecE hbel).out hkl
      obtain ⟨in0, _, _, c0, c2, c3, a1, k1, _, c1, t1⟩ := hx k hkl
      obtain ⟨p, Hp⟩ : ∃ p, Hid (p = prevI (nId l) k) := ⟨_, (rfl : prevI (nId l) k = _)⟩
      rw [← Hp.out]
      clear hx hT
      cases hf : folB p l[k].id (tagsB l[k].tags)
      · have HF : Hid (false = bP (AscP n (nId l) (nTg l))) := (folB_at hlt (by rw [← Hp.out, nId_at hkl, nTg_at hkl]; exact hf)).symm
        go_wp2_with fail
        refine (follows_any _ _ _ _ l[k].tags _ _ _ (t1.bel2 (bel_alloc (Bel.refl _) _)) rfl (hs k hkl)).mono ?_
        rintro e w1 ⟨rfl, hb1⟩
        have hB1 := bel_step (bel_alloc hbel _) hb1
        clear c0 c1 hb hbel hb1
        go_wp2
        go_ret
        exact ⟨ret_bl HF.out, hB1⟩
      · have HA : Hid (prevI (nId l) k < nId l k ∧ nId l k ≤ 1000000000 ∧ nTg l k = true) := by rw [← Hp.out, nId_at hkl, nTg_at hkl]; exact folB_out hf
        have HI : Hid (prevI (nId l) (k + 1) = l[k].id) := nId_at hkl
        go_wp2_with fail
        refine (follows_any _ _ _ _ l[k].tags _ _ _ (t1.bel2 (bel_alloc (Bel.refl _) _)) rfl (hs k hkl)).mono ?_
        rintro e w1 ⟨rfl, hb1⟩
        have hB1 := bel_step (bel_alloc hbel _) hb1
        have hX := (Blk.new wr [.int .i64 l[k].id, .slice a1 l[k].tags.length k1, .int .i64 l[k].x, .int .i64 l[k].y] 91).bel hb1
        have z0 : w1.cell? ⟨wr.heap.size, 0, none⟩ = some (.int .i64 l[k].id) := hX.cell 0 (by simp)
        have z1 : w1.cell? ⟨wr.heap.size, 1, none⟩ = some (.slice a1 l[k].tags.length k1) := hX.cell 1 (by simp)
        have z2 : w1.cell? ⟨wr.heap.size, 2, none⟩ = some (.int .i64 l[k].x) := hX.cell 2 (by simp)
        have z3 : w1.cell? ⟨wr.heap.size, 3, none⟩ = some (.int .i64 l[k].y) := hX.cell 3 (by simp)
        clear hb hbel hb1
        go_wp2_with fail
        refine (key_any _ _ _ _ _).mono ?_
        rintro e w2 ⟨rfl, hb2⟩
        have hB2 := bel_step hB1 hb2
        go_wp2
        go_roundw
        case rel => exact ⟨k + 1, by omega, by go_num, by rw [HI.out], fun j hj => by
                        (by_cases e : j = k)
                        · subst e; exact HA.out
                        · exact H.out j (by omega), hB2⟩
        case measure => simp [intOf]; omega
    · have HT : Hid (true = bP (AscP n (nId l) (nTg l))) := (bP_true fun j hj => H.out j (by omega)).symm
      go_wp2
      go_ret
      exact ⟨ret_bl HT.out, hbel⟩

theorem methW_key (id : Int) (a : Option Addr) (n c : Nat) (a' : Option Addr) (n' c' : Nat) (w : World) : (method 323 95 (.agg #[.int .i64 id, .slice a n c, .slice a' n' c']) "loop.example/g00024/impl.key").run Tryz.prog w = .ok (148, .agg #[.int .i64 id, .slice a n c]) w := by kernel_rfl
theorem methW_fol (id : Int) (a : Option Addr) (n c : Nat) (a' : Option Addr) (n' c' : Nat) (w : World) : (method 323 95 (.agg #[.int .i64 id, .slice a n c, .slice a' n' c']) "loop.example/g00024/impl.follows").run Tryz.prog w = .ok (147, .agg #[.int .i64 id, .slice a n c]) w := by kernel_rfl

set_option maxRecDepth 100000 in
set_option maxHeartbeats 1000000 in
theorem ascW_any (a : Option Addr) (n c : Nat) (l : List WayD) (bs : List Nat) (w : World) (hT : WRecs w a l bs) (hn : l.length = n) (hm : n ≤ 1048576) (hs : ∀ i (h : i < l.length), l[i].nodes.length ≤ 1048576 ∧ l[i].tags.length ≤ 1048576) :
    Calls Tryz.prog 109 #[.slice a n c] w fun e w' => e = .returned (.bool (bP (AscP n (wId l) (wTg l)))) ∧ Bel w w' := by
  have Hn : Hid (l.length = n) := hn
  clear hn
  have hmk := methW_key
  have hmf := methW_fol
  go_enter Tryz.func109, Tryz.ntmps109
  go_wp2
  go_loopw [3, 5, 8] (fun t _ i wr => ∃ k : Nat, k ≤ n ∧ i = .int .i64 k ∧ t = .int .i64 (prevI (wId l) k) ∧ (∀ j, j < k → prevI (wId l) j < wId l j ∧ wId l j ≤ 1000000000 ∧ wTg l j = true) ∧ Bel w wr) (fun _ _ i _ => n - (intOf i).toNat)
  case atStart => exact ⟨0, Nat.zero_le _, rfl, rfl, fun j hj => absurd hj (Nat.not_lt_zero _), Bel.refl _⟩
  case round =>
    obtain ⟨k, hk, rfl, rfl, hall, hbel⟩ := hrel
    have H : Hid (∀ j, j < k → prevI (wId l) j < wId l j ∧ wId l j ≤ 1000000000 ∧ wTg l j = true) := hall
    clear hall
    by_cases hlt : k < n
    · have hkl : k < l.length := by rw [Hn.out]; exact hlt
      obtain ⟨b, off, f, rfl, hb, hx⟩ := (hT.bel wRecE hbel).out hkl
      obtain ⟨in0, c0, an, kn, a1, k1, _, bs2, _, _, _, c2, _, c1, t1⟩ := hx k hkl
      obtain ⟨p, Hp⟩ : ∃ p, Hid (p = prevI (wId l) k) := ⟨_, (rfl : prevI (wId l) k = _)⟩
      rw [← Hp.out]
      clear hx hT
      cases hf : folB p l[k].id (tagsB l[k].tags)
      · have HF : Hid (false = bP (AscP n (wId l) (wTg l))) := (folB_at hlt (by rw [← Hp.out, wId_at hkl, wTg_at hkl]; exact hf)).symm
        go_wp2_with fail
        refine (follows_any _ _ _ _ l[k].tags _ _ _ (t1.bel2 (bel_alloc (Bel.refl _) _)) rfl ((hs k hkl).2)).mono ?_
        rintro e w1 ⟨rfl, hb1⟩
        have hB1 := bel_step (bel_alloc hbel _) hb1
        clear c0 c1 hb hbel hb1
        go_wp2
        go_ret
        exact ⟨ret_bl HF.out, hB1⟩
      · have HA : Hid (prevI (wId l) k < wId l k ∧ wId l k ≤ 1000000000 ∧ wTg l k = true) := by rw [← Hp.out, wId_at hkl, wTg_at hkl]; exact folB_out hf
        have HI : Hid (prevI (wId l) (k + 1) = l[k].id) := wId_at hkl
        go_wp2_with fail
        refine (follows_any _ _ _ _ l[k].tags _ _ _ (t1.bel2 (bel_alloc (Bel.refl _) _)) rfl ((hs k hkl).2)).mono ?_
        rintro e w1 ⟨rfl, hb1⟩
        have hB1 := bel_step (bel_alloc hbel _) hb1
        have hX := (Blk.new wr [.int .i64 l[k].id, .slice a1 l[k].tags.length k1, .slice an l[k].nodes.length kn] 95).bel hb1
        have z0 : w1.cell? ⟨wr.heap.size, 0, none⟩ = some (.int .i64 l[k].id) := hX.cell 0 (by simp)
        have z1 : w1.cell? ⟨wr.heap.size, 1, none⟩ = some (.slice a1 l[k].tags.length k1) := hX.cell 1 (by simp)
        have z2 : w1.cell? ⟨wr.heap.size, 2, none⟩ = some (.slice an l[k].nodes.length kn) := hX.cell 2 (by simp)
        clear hb hbel hb1
        go_wp2_with fail
        refine (key_any _ _ _ _ _).mono ?_
        rintro e w2 ⟨rfl, hb2⟩
        have hB2 := bel_step hB1 hb2
        go_wp2
        go_roundw
        case rel => exact ⟨k + 1, by omega, by go_num, by rw [HI.out], fun j hj => by
                        (by_cases e : j = k)
                        · subst e; exact HA.out
                        · exact H.out j (by omega), hB2⟩
        case measure => simp [intOf]; omega
    · have HT : Hid (true = bP (AscP n (wId l) (wTg l))) := (bP_true fun j hj => H.out j (by omega)).symm
      go_wp2
      go_ret
      exact ⟨ret_bl HT.out, hbel⟩

theorem methA_key (id : Int) (a : Option Addr) (n c : Nat) (a' : Option Addr) (n' c' : Nat) (w : World) : (method 323 98 (.agg #[.int .i64 id, .slice a n c, .slice a' n' c']) "loop.example/g00024/impl.key").run Tryz.prog w = .ok (148, .agg #[.int .i64 id, .slice a n c]) w := by kernel_rfl
theorem methA_fol (id : Int) (a : Option Addr) (n c : Nat) (a' : Option Addr) (n' c' : Nat) (w : World) : (method 323 98 (.agg #[.int .i64 id, .slice a n c, .slice a' n' c']) "loop.example/g00024/impl.follows").run Tryz.prog w = .ok (147, .agg #[.int .i64 id, .slice a n c]) w := by kernel_rfl

set_option maxRecDepth 100000 in
set_option maxHeartbeats 1000000 in
theorem ascA_any (a : Option Addr) (n c : Nat) (l : List AreaD) (bs : List Nat) (w : World) (hT : ARecs w a l bs) (hn : l.length = n) (hm : n ≤ 1048576) (hs : ∀ i (h : i < l.length), l[i].parts.length ≤ 1048576 ∧ l[i].tags.length ≤ 1048576) :
    Calls Tryz.prog 110 #[.slice a n c] w fun e w' => e = .returned (.bool (bP (AscP n (aId l) (aTg l)))) ∧ Bel w w' := by
  have Hn : Hid (l.length = n) := hn
  clear hn
  have hmk := methA_key
  have hmf := methA_fol
  go_enter Tryz.func110, Tryz.ntmps110
  go_wp2
  go_loopw [3, 5, 8] (fun t _ i wr => ∃ k : Nat, k ≤ n ∧ i = .int .i64 k ∧ t = .int .i64 (prevI (aId l) k) ∧ (∀ j, j < k → prevI (aId l) j < aId l j ∧ aId l j ≤ 1000000000 ∧ aTg l j = true) ∧ Bel w wr) (fun _ _ i _ => n - (intOf i).toNat)
  case atStart => exact ⟨0, Nat.zero_le _, rfl, rfl, fun j hj => absurd hj (Nat.not_lt_zero _), Bel.refl _⟩
  case round =>
    obtain ⟨k, hk, rfl, rfl, hall, hbel⟩ := hrel
    have H : Hid (∀ j, j < k → prevI (aId l) j < aId l j ∧ aId l j ≤ 1000000000 ∧ aTg l j = true) := hall
    clear hall
    by_cases hlt : k < n
    · have hkl : k < l.length := by rw [Hn.out]; exact hlt
      obtain ⟨b, off, f, rfl, hb, hx⟩ := (hT.bel aRecE hbel).out hkl
      obtain ⟨in0, c0, an, kn, a1, k1, _, bs2, _, _, _, c2, _, c1, t1⟩ := hx k hkl
      obtain ⟨p, Hp⟩ : ∃ p, Hid (p = prevI (aId l) k) := ⟨_, (rfl : prevI (aId l) k = _)⟩
      rw [← Hp.out]
      clear hx hT
      cases hf : folB p l[k].id (tagsB l[k].tags)
      · have HF : Hid (false = bP (AscP n (aId l) (aTg l))) := (folB_at hlt (by rw [← Hp.out, aId_at hkl, aTg_at hkl]; exact hf)).symm
        go_wp2_with fail
        refine (follows_any _ _ _ _ l[k].tags _ _ _ (t1.bel2 (bel_alloc (Bel.refl _) _)) rfl ((hs k hkl).2)).mono ?_
        rintro e w1 ⟨rfl, hb1⟩
        have hB1 := bel_step (bel_alloc hbel _) hb1
        clear c0 c1 hb hbel hb1
        go_wp2
        go_ret
        exact ⟨ret_bl HF.out, hB1⟩
      · have HA : Hid (prevI (aId l) k < aId l k ∧ aId l k ≤ 1000000000 ∧ aTg l k = true) := by rw [← Hp.out, aId_at hkl, aTg_at hkl]; exact folB_out hf
        have HI : Hid (prevI (aId l) (k + 1) = l[k].id) := aId_at hkl
        go_wp2_with fail
        refine (follows_any _ _ _ _ l[k].tags _ _ _ (t1.bel2 (bel_alloc (Bel.refl _) _)) rfl ((hs k hkl).2)).mono ?_
        rintro e w1 ⟨rfl, hb1⟩
        have hB1 := bel_step (bel_alloc hbel _) hb1
        have hX := (Blk.new wr [.int .i64 l[k].id, .slice a1 l[k].tags.length k1, .slice an l[k].parts.length kn] 98).bel hb1
        have z0 : w1.cell? ⟨wr.heap.size, 0, none⟩ = some (.int .i64 l[k].id) := hX.cell 0 (by simp)
        have z1 : w1.cell? ⟨wr.heap.size, 1, none⟩ = some (.slice a1 l[k].tags.length k1) := hX.cell 1 (by simp)
        have z2 : w1.cell? ⟨wr.heap.size, 2, none⟩ = some (.slice an l[k].parts.length kn) := hX.cell 2 (by simp)
        clear hb hbel hb1
        go_wp2_with fail
        refine (key_any _ _ _ _ _).mono ?_
        rintro e w2 ⟨rfl, hb2⟩
        have hB2 := bel_step hB1 hb2
        go_wp2
        go_roundw
        case rel => exact ⟨k + 1, by omega, by go_num, by rw [HI.out], fun j hj => by
                        (by_cases e : j = k)
                        · subst e; exact HA.out
                        · exact H.out j (by omega), hB2⟩
        case measure => simp [intOf]; omega
    · have HT : Hid (true = bP (AscP n (aId l) (aTg l))) := (bP_true fun j hj => H.out j (by omega)).symm
      go_wp2
      go_ret
      exact ⟨ret_bl HT.out, hbel⟩

end Go.Proofs.YtmmapkpieimibaaGreat
