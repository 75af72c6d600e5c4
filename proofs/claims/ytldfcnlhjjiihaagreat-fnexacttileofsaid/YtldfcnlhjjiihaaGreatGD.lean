/-
  Contracts of the question whether Ids ascend, for nodes, ways and areas: for every list.
  Contracts: what is asked of every way and of every area; at which places Ids stand.
  Contract of the question whether a chart can be: for every chart.
  Rows of records that the call has built by append: how they are read.
-/
import Derived.Test.YtldfcnlhjjiihaaGreatGB
import Derived.Deep.LoopGhost
import Derived.Test.YtldfcnlhjjiihaaGreatGC
import Derived.Laws.OwnMore
import Derived.Laws.AppendOwnNone
import Derived.Deep.Slices
namespace Go.Proofs.YtldfcnlhjjiihaaGreat
open Go.RowKit

theorem asc_pos {n : Nat} {I : Nat → Int} {T : Nat → Bool} (h : AscP n I T) : ∀ k, k < n → 0 < I k
  | 0, hk => (h 0 hk).1
  | k + 1, hk => Int.lt_trans (asc_pos h k (by omega)) (h (k + 1) hk).1
theorem folB_at {n k : Nat} {I : Nat → Int} {T : Nat → Bool} (hk : k < n) (h : folB (prevI I k) (I k) (T k) = false) : bP (AscP n I T) = false :=
  bP_false fun hh => by have := hh k hk; have := asc_pos hh k hk; simp_all [folB, idK]
theorem folB_out {p i : Int} {t : Bool} (h : folB p i t = true) : p < i ∧ i ≤ 1000000000 ∧ t = true := by
  have h' : p < i ∧ (0 < i ∧ i ≤ 1000000000) ∧ t = true := by simpa [folB, idK] using h
  exact ⟨h'.1, h'.2.1.2, h'.2.2⟩

theorem methN_key (id : Int) (a : Option Addr) (n c : Nat) (x y : Int) (w : World) : (method 339 123 (.agg #[.int .i64 id, .slice a n c, .int .i64 x, .int .i64 y]) "loop.example/g00024/impl.key").run Tryz.prog w = .ok (160, .agg #[.int .i64 id, .slice a n c]) w := by kernel_rfl
theorem methN_fol (id : Int) (a : Option Addr) (n c : Nat) (x y : Int) (w : World) : (method 339 123 (.agg #[.int .i64 id, .slice a n c, .int .i64 x, .int .i64 y]) "loop.example/g00024/impl.follows").run Tryz.prog w = .ok (159, .agg #[.int .i64 id, .slice a n c]) w := by kernel_rfl

set_option maxRecDepth 100000 in
set_option maxHeartbeats 1000000 in
theorem ascN_any (a : Option Addr) (n c : Nat) (l : List NodeD) (bs : List Nat) (w : World) (hT : NRecs w a l bs) (hn : l.length = n) (hm : n ≤ 1048576) (hs : ∀ i (h : i < l.length), l[i].tags.length ≤ 1048576) :
    Calls Tryz.prog 86 #[.slice a n c] w fun e w' => e = .returned (.bool (bP (AscP n (nId l) (nTg l)))) ∧ Bel w w' := by
  have Hn : Hid (l.length = n) := hn
  clear hn
  have hmk := methN_key
  have hmf := methN_fol
  go_enter Tryz.func86, Tryz.ntmps86
  go_wp2
  go_loopw [3, 5, 8] (fun t _ i wr => ∃ k : Nat, k ≤ n ∧ i = .int .i64 k ∧ t = .int .i64 (prevI (nId l) k) ∧ (∀ j, j < k → prevI (nId l) j < nId l j ∧ nId l j ≤ 1000000000 ∧ nTg l j = true) ∧ Bel w wr) (fun _ _ i _ => n - (intOf i).toNat)
  case atStart => exact ⟨0, Nat.zero_le _, rfl, rfl, fun j hj => absurd hj (Nat.not_lt_zero _), Bel.refl _⟩
  case round =>
    obtain ⟨k, hk, rfl, rfl, hall, hbel⟩ := hrel
    have H : Hid (∀ j, j < k → prevI (nId l) j < nId l j ∧ nId l j ≤ 1000000000 ∧ nTg l j = true) := hall
    clear hall
    by_cases hlt : k < n
    · have hkl : k < l.length := by rw [Hn.out]; exact hlt
      obtain ⟨b, off, f, rfl, hb, hx⟩ := (hT.bel nRecE hbel).out hkl
      obtain ⟨in0, _, _, c0, c2, c3, a1, k1, _, c1, t1⟩ := hx k hkl
      obtain ⟨p, Hp⟩ : ∃ p, Hid (p = prevI (nId l) k) := ⟨_, (rfl : prevI (nId l) k = _)⟩
      rw [← Hp.out]
      clear hx hT
      cases hf : folB p l[k].id (tagsB l[k].tags)
      · have HF : Hid (false = bP (AscP n (nId l) (nTg l))) := (folB_at hlt (by rw [← Hp.out, nId_at hkl, nTg_at hkl]; exact hf)).symm
        go_wp2_with fail
        refine (follows_any _ _ _ _ l[k].tags _ _ _ (t1.bel2 (bel_alloc (Bel.refl _) _)) rfl (hs k hkl)).mono ?_
        rintro e w1 ⟨rfl, hb1⟩
        have hB1 := bel_step (bel_alloc hbel _) hb1
        clear c0 c1 hb hbel hb1
        go_wp2
        go_ret
        exact ⟨ret_bl HF.out, hB1⟩
      · have HA : Hid (prevI (nId l) k < nId l k ∧ nId l k ≤ 1000000000 ∧ nTg l k = true) := by rw [← Hp.out, nId_at hkl, nTg_at hkl]; exact folB_out hf
        have HI : Hid (prevI (nId l) (k + 1) = l[k].id) := nId_at hkl
        go_wp2_with fail
        refine (follows_any _ _ _ _ l[k].tags _ _ _ (t1.bel2 (bel_alloc (Bel.refl _) _)) rfl (hs k hkl)).mono ?_
        rintro e w1 ⟨rfl, hb1⟩
        have hB1 := bel_step (bel_alloc hbel _) hb1
        have hX := (Blk.new wr [.int .i64 l[k].id, .slice a1 l[k].tags.length k1, .int .i64 l[k].x, .int .i64 l[k].y] 123).bel hb1
        have z0 : w1.cell? ⟨wr.heap.size, 0, none⟩ = some (.int .i64 l[k].id) := hX.cell 0 (by simp)
        have z1 : w1.cell? ⟨wr.heap.size, 1, none⟩ = some (.slice a1 l[k].tags.length k1) := hX.cell 1 (by simp)
        have z2 : w1.cell? ⟨wr.heap.size, 2, none⟩ = some (.int .i64 l[k].x) := hX.cell 2 (by simp)
        have z3 : w1.cell? ⟨wr.heap.size, 3, none⟩ = some (.int .i64 l[k].y) := hX.cell 3 (by simp)
        clear hb hbel hb1
        go_wp2_with fail
        refine (key_any _ _ _ _ _).mono ?_
        rintro e w2 ⟨rfl, hb2⟩
        have hB2 := bel_step hB1 hb2
        go_wp2
        go_roundw
        case rel => exact ⟨k + 1, by omega, by go_num, by rw [HI.out], fun j hj => by
                        (by_cases e : j = k)
                        · subst e; exact HA.out
                        · exact H.out j (by omega), hB2⟩
        case measure => simp [intOf]; omega
    · have HT : Hid (true = bP (AscP n (nId l) (nTg l))) := (bP_true fun j hj => H.out j (by omega)).symm
      go_wp2
      go_ret
      exact ⟨ret_bl HT.out, hbel⟩

theorem methW_key (id : Int) (a : Option Addr) (n c : Nat) (a' : Option Addr) (n' c' : Nat) (w : World) : (method 339 125 (.agg #[.int .i64 id, .slice a n c, .slice a' n' c']) "loop.example/g00024/impl.key").run Tryz.prog w = .ok (160, .agg #[.int .i64 id, .slice a n c]) w := by kernel_rfl
theorem methW_fol (id : Int) (a : Option Addr) (n c : Nat) (a' : Option Addr) (n' c' : Nat) (w : World) : (method 339 125 (.agg #[.int .i64 id, .slice a n c, .slice a' n' c']) "loop.example/g00024/impl.follows").run Tryz.prog w = .ok (159, .agg #[.int .i64 id, .slice a n c]) w := by kernel_rfl

set_option maxRecDepth 100000 in
set_option maxHeartbeats 1000000 in
theorem ascW_any (a : Option Addr) (n c : Nat) (l : List WayD) (bs : List Nat) (w : World) (hT : WRecs w a l bs) (hn : l.length = n) (hm : n ≤ 1048576) (hs : ∀ i (h : i < l.length), l[i].nodes.length ≤ 1048576 ∧ l[i].tags.length ≤ 1048576) :
    Calls Tryz.prog 87 #[.slice a n c] w fun e w' => e = .returned (.bool (bP (AscP n (wId l) (wTg l)))) ∧ Bel w w' := by
  have Hn : Hid (l.length = n) := hn
  clear hn
  have hmk := methW_key
  have hmf := methW_fol
  go_enter Tryz.func87, Tryz.ntmps87
  go_wp2
  go_loopw [3, 5, 8] (fun t _ i wr => ∃ k : Nat, k ≤ n ∧ i = .int .i64 k ∧ t = .int .i64 (prevI (wId l) k) ∧ (∀ j, j < k → prevI (wId l) j < wId l j ∧ wId l j ≤ 1000000000 ∧ wTg l j = true) ∧ Bel w wr) (fun _ _ i _ => n - (intOf i).toNat)
  case atStart => exact ⟨0, Nat.zero_le _, rfl, rfl, fun j hj => absurd hj (Nat.not_lt_zero _), Bel.refl _⟩
  case round =>
    obtain ⟨k, hk, rfl, rfl, hall, hbel⟩ := hrel
    have H : Hid (∀ j, j < k → prevI (wId l) j < wId l j ∧ wId l j ≤ 1000000000 ∧ wTg l j = true) := hall
    clear hall
    by_cases hlt : k < n
    · have hkl : k < l.length := by rw [Hn.out]; exact hlt
      obtain ⟨b, off, f, rfl, hb, hx⟩ := (hT.bel wRecE hbel).out hkl
      obtain ⟨in0, c0, an, kn, a1, k1, _, bs2, _, _, _, c2, _, c1, t1⟩ := hx k hkl
      obtain ⟨p, Hp⟩ : ∃ p, Hid (p = prevI (wId l) k) := ⟨_, (rfl : prevI (wId l) k = _)⟩
      rw [← Hp.out]
      clear hx hT
      cases hf : folB p l[k].id (tagsB l[k].tags)
      · have HF : Hid (false = bP (AscP n (wId l) (wTg l))) := (folB_at hlt (by rw [← Hp.out, wId_at hkl, wTg_at hkl]; exact hf)).symm
        go_wp2_with fail
        refine (follows_any _ _ _ _ l[k].tags _ _ _ (t1.bel2 (bel_alloc (Bel.refl _) _)) rfl ((hs k hkl).2)).mono ?_
        rintro e w1 ⟨rfl, hb1⟩
        have hB1 := bel_step (bel_alloc hbel _) hb1
        clear c0 c1 hb hbel hb1
        go_wp2
        go_ret
        exact ⟨ret_bl HF.out, hB1⟩
      · have HA : Hid (prevI (wId l) k < wId l k ∧ wId l k ≤ 1000000000 ∧ wTg l k = true) := by rw [← Hp.out, wId_at hkl, wTg_at hkl]; exact folB_out hf
        have HI : Hid (prevI (wId l) (k + 1) = l[k].id) := wId_at hkl
        go_wp2_with fail
        refine (follows_any _ _ _ _ l[k].tags _ _ _ (t1.bel2 (bel_alloc (Bel.refl _) _)) rfl ((hs k hkl).2)).mono ?_
        rintro e w1 ⟨rfl, hb1⟩
        have hB1 := bel_step (bel_alloc hbel _) hb1
        have hX := (Blk.new wr [.int .i64 l[k].id, .slice a1 l[k].tags.length k1, .slice an l[k].nodes.length kn] 125).bel hb1
        have z0 : w1.cell? ⟨wr.heap.size, 0, none⟩ = some (.int .i64 l[k].id) := hX.cell 0 (by simp)
        have z1 : w1.cell? ⟨wr.heap.size, 1, none⟩ = some (.slice a1 l[k].tags.length k1) := hX.cell 1 (by simp)
        have z2 : w1.cell? ⟨wr.heap.size, 2, none⟩ = some (.slice an l[k].nodes.length kn) := hX.cell 2 (by simp)
        clear hb hbel hb1
        go_wp2_with fail
        refine (key_any _ _ _ _ _).mono ?_
        rintro e w2 ⟨rfl, hb2⟩
        have hB2 := bel_step hB1 hb2
        go_wp2
        go_roundw
        case rel => exact ⟨k + 1, by omega, by go_num, by rw [HI.out], fun j hj => by
                        (by_cases e : j = k)
                        · subst e; exact HA.out
                        · exact H.out j (by omega), hB2⟩
        case measure => simp [intOf]; omega
    · have HT : Hid (true = bP (AscP n (wId l) (wTg l))) := (bP_true fun j hj => H.out j (by omega)).symm
      go_wp2
      go_ret
      exact ⟨ret_bl HT.out, hbel⟩

theorem methA_key (id : Int) (a : Option Addr) (n c : Nat) (a' : Option Addr) (n' c' : Nat) (w : World) : (method 339 127 (.agg #[.int .i64 id, .slice a n c, .slice a' n' c']) "loop.example/g00024/impl.key").run Tryz.prog w = .ok (160, .agg #[.int .i64 id, .slice a n c]) w := by kernel_rfl
theorem methA_fol (id : Int) (a : Option Addr) (n c : Nat) (a' : Option Addr) (n' c' : Nat) (w : World) : (method 339 127 (.agg #[.int .i64 id, .slice a n c, .slice a' n' c']) "loop.example/g00024/impl.follows").run Tryz.prog w = .ok (159, .agg #[.int .i64 id, .slice a n c]) w := by kernel_rfl

set_option maxRecDepth 100000 in
set_option maxHeartbeats 1000000 in
theorem ascA_any (a : Option Addr) (n c : Nat) (l : List AreaD) (bs : List Nat) (w : World) (hT : ARecs w a l bs) (hn : l.length = n) (hm : n ≤ 1048576) (hs : ∀ i (h : i < l.length), l[i].parts.length ≤ 1048576 ∧ l[i].tags.length ≤ 1048576) :
    Calls Tryz.prog 88 #[.slice a n c] w fun e w' => e = .returned (.bool (bP (AscP n (aId l) (aTg l)))) ∧ Bel w w' := by
  have Hn : Hid (l.length = n) := hn
  clear hn
  have hmk := methA_key
  have hmf := methA_fol
  go_enter Tryz.func88, Tryz.ntmps88
  go_wp2
  go_loopw [3, 5, 8] (fun t _ i wr => ∃ k : Nat, k ≤ n ∧ i = .int .i64 k ∧ t = .int .i64 (prevI (aId l) k) ∧ (∀ j, j < k → prevI (aId l) j < aId l j ∧ aId l j ≤ 1000000000 ∧ aTg l j = true) ∧ Bel w wr) (fun _ _ i _ => n - (intOf i).toNat)
  case atStart => exact ⟨0, Nat.zero_le _, rfl, rfl, fun j hj => absurd hj (Nat.not_lt_zero _), Bel.refl _⟩
  case round =>
    obtain ⟨k, hk, rfl, rfl, hall, hbel⟩ := hrel
    have H : Hid (∀ j, j < k → prevI (aId l) j < aId l j ∧ aId l j ≤ 1000000000 ∧ aTg l j = true) := hall
    clear hall
    by_cases hlt : k < n
    · have hkl : k < l.length := by rw [Hn.out]; exact hlt
      obtain ⟨b, off, f, rfl, hb, hx⟩ := (hT.bel aRecE hbel).out hkl
      obtain ⟨in0, c0, an, kn, a1, k1, _, bs2, _, _, _, c2, _, c1, t1⟩ := hx k hkl
      obtain ⟨p, Hp⟩ : ∃ p, Hid (p = prevI (aId l) k) := ⟨_, (rfl : prevI (aId l) k = _)⟩
      rw [← Hp.out]
      clear hx hT
      cases hf : folB p l[k].id (tagsB l[k].tags)
      · have HF : Hid (false = bP (AscP n (aId l) (aTg l))) := (folB_at hlt (by rw [← Hp.out, aId_at hkl, aTg_at hkl]; exact hf)).symm
        go_wp2_with fail
        refine (follows_any _ _ _ _ l[k].tags _ _ _ (t1.bel2 (bel_alloc (Bel.refl _) _)) rfl ((hs k hkl).2)).mono ?_
        rintro e w1 ⟨rfl, hb1⟩
        have hB1 := bel_step (bel_alloc hbel _) hb1
        clear c0 c1 hb hbel hb1
        go_wp2
        go_ret
        exact ⟨ret_bl HF.out, hB1⟩
      · have HA : Hid (prevI (aId l) k < aId l k ∧ aId l k ≤ 1000000000 ∧ aTg l k = true) := by rw [← Hp.out, aId_at hkl, aTg_at hkl]; exact folB_out hf
        have HI : Hid (prevI (aId l) (k + 1) = l[k].id) := aId_at hkl
        go_wp2_with fail
        refine (follows_any _ _ _ _ l[k].tags _ _ _ (t1.bel2 (bel_alloc (Bel.refl _) _)) rfl ((hs k hkl).2)).mono ?_
        rintro e w1 ⟨rfl, hb1⟩
        have hB1 := bel_step (bel_alloc hbel _) hb1
        have hX := (Blk.new wr [.int .i64 l[k].id, .slice a1 l[k].tags.length k1, .slice an l[k].parts.length kn] 127).bel hb1
        have z0 : w1.cell? ⟨wr.heap.size, 0, none⟩ = some (.int .i64 l[k].id) := hX.cell 0 (by simp)
        have z1 : w1.cell? ⟨wr.heap.size, 1, none⟩ = some (.slice a1 l[k].tags.length k1) := hX.cell 1 (by simp)
        have z2 : w1.cell? ⟨wr.heap.size, 2, none⟩ = some (.slice an l[k].parts.length kn) := hX.cell 2 (by simp)
        clear hb hbel hb1
        go_wp2_with fail
        refine (key_any _ _ _ _ _).mono ?_
        rintro e w2 ⟨rfl, hb2⟩
        have hB2 := bel_step hB1 hb2
        go_wp2
        go_roundw
        case rel => exact ⟨k + 1, by omega, by go_num, by rw [HI.out], fun j hj => by
                        (by_cases e : j = k)
                        · subst e; exact HA.out
                        · exact H.out j (by omega), hB2⟩
        case measure => simp [intOf]; omega
    · have HT : Hid (true = bP (AscP n (aId l) (aTg l))) := (bP_true fun j hj => H.out j (by omega)).symm
      go_wp2
      go_ret
      exact ⟨ret_bl HT.out, hbel⟩

end Go.Proofs.YtldfcnlhjjiihaaGreat

namespace Go.Proofs.YtldfcnlhjjiihaaGreat
open Go.RowKit Go.Maps

/-- At which place an Id stands last. -/
def plc (I : Nat → Int) : Nat → Int → Option Int
  | 0, _ => none
  | k + 1, y => if y = I k then some (k : Int) else plc I k y
theorem plc_some (I : Nat → Int) (x : Int) : ∀ n, (plc I n x).isSome = bP (HasI n I x)
  | 0 => (bP_false fun ⟨i, hi, _⟩ => absurd hi (Nat.not_lt_zero _)).symm
  | n + 1 => by
    simp only [plc]
    split
    · next h => exact (bP_true ⟨n, Nat.lt_succ_self _, h.symm⟩).symm
    · next h =>
      rw [plc_some I x n]
      by_cases hh : HasI n I x
      · rw [bP_true hh]
        obtain ⟨i, hi, e⟩ := hh
        exact (bP_true ⟨i, by omega, e⟩).symm
      · rw [bP_false hh]
        refine (bP_false fun ⟨i, hi, e⟩ => ?_).symm
        by_cases en : i = n
        · subst en; exact h e.symm
        · exact hh ⟨i, by omega, e⟩
theorem plc_at {I : Nat → Int} {i : Nat} : ∀ {n : Nat}, i < n → (∀ j, i < j → j < n → I j ≠ I i) → plc I n (I i) = some (i : Int)
  | 0, h, _ => absurd h (Nat.not_lt_zero _)
  | n + 1, h, hu => by
    simp only [plc]
    by_cases e : i = n
    · subst e; simp
    · rw [if_neg (fun h' => hu n (by omega) (by omega) h'.symm)]
      exact plc_at (by omega) (fun j h1 h2 => hu j h1 (by omega))

set_option maxRecDepth 100000 in
set_option maxHeartbeats 1000000 in
theorem allW_any (an : Option Addr) (nn cn : Nat) (aw : Option Addr) (nw cw : Nat) (aa : Option Addr) (na ca : Nat) (bN bW : Nat) (a : Option Addr) (n c : Nat) (l : List WayD) (bs : List Nat) (nm m : Nat) (I : Nat → Int) (g : Int → Option Int) (w : World) (hT : WRecs w a l bs) (hn : l.length = n) (hm : n ≤ 1048576) (hs : ∀ i (h : i < l.length), l[i].nodes.length ≤ 1048576)
    (hM : MapAt w bN nm g) (hg : ∀ x, (g x).isSome = bP (HasI m I x)) :
    Calls Tryz.prog 91 #[.slice a n c, .func (.func 92) #[chV an nn cn aw nw cw aa na ca bN bW] #[]] w fun e w' => e = .returned (.bool (bP (∀ i (h : i < l.length), WayP m I l[i].nodes))) ∧ Bel w w' := by
  have Hn : Hid (l.length = n) := hn
  have Hg : Hid (∀ x, (g x).isSome = bP (HasI m I x)) := hg
  clear hn hg
  go_enter Tryz.func91, Tryz.ntmps91
  go_wp2
  go_loopw [6, 9] (fun _ i wr => ∃ k : Nat, k ≤ n ∧ i = .int .i64 k ∧ (∀ j (h : j < l.length), j < k → WayP m I l[j].nodes) ∧ Bel w wr) (fun _ i _ => n - (intOf i).toNat)
  case atStart => exact ⟨0, Nat.zero_le _, rfl, fun j _ hj => absurd hj (Nat.not_lt_zero _), Bel.refl _⟩
  case round =>
    obtain ⟨k, hk, rfl, hall, hbel⟩ := hrel
    have H : Hid (∀ j (h : j < l.length), j < k → WayP m I l[j].nodes) := hall
    clear hall
    by_cases hlt : k < n
    · have hkl : k < l.length := by rw [Hn.out]; exact hlt
      obtain ⟨b, off, f, rfl, hb, hx⟩ := (hT.bel wRecE hbel).out hkl
      obtain ⟨in0, c0, an1, kn1, a1, k1, bs1, bs2, _, _, _, c2, t2, c1, t1⟩ := hx k hkl
      have hMr := hM.bel (bel_alloc hbel (.cells #[.int .i64 l[k].id, .slice a1 l[k].tags.length k1, .slice an1 l[k].nodes.length kn1] 125))
      have t2' := t2.bel intE (bel_alloc (Bel.refl wr) (.cells #[.int .i64 l[k].id, .slice a1 l[k].tags.length k1, .slice an1 l[k].nodes.length kn1] 125))
      clear hx hT hM
      cases hf : bP (WayP m I l[k].nodes)
      · have HF : Hid (false = bP (∀ i (h : i < l.length), WayP m I l[i].nodes)) := (bP_false fun h => bP_not hf (h k hkl)).symm
        go_wp2_with fail
        refine (wayOk_any _ _ _ _ _ _ _ _ _ _ _ _ _ _ _ _ _ _ l[k].nodes bs1 nm m I g _ t2' rfl (hs k hkl) hMr Hg.out).mono ?_
        rintro e w1 ⟨rfl, hb1⟩
        rw [hf]
        have hB1 := bel_step (bel_alloc hbel _) hb1
        go_wp2
        go_ret
        exact ⟨ret_bl HF.out, hB1⟩
      · have HA : Hid (WayP m I l[k].nodes) := bP_out hf
        go_wp2_with fail
        refine (wayOk_any _ _ _ _ _ _ _ _ _ _ _ _ _ _ _ _ _ _ l[k].nodes bs1 nm m I g _ t2' rfl (hs k hkl) hMr Hg.out).mono ?_
        rintro e w1 ⟨rfl, hb1⟩
        rw [hf]
        have hB1 := bel_step (bel_alloc hbel _) hb1
        go_wp2
        go_roundw
        case rel => exact ⟨k + 1, by omega, by go_num, fun j h hj => by
                        (by_cases e : j = k)
                        · subst e; exact HA.out
                        · exact H.out j h (by omega), hB1⟩
        case measure => simp [intOf]; omega
    · have HT : Hid (true = bP (∀ i (h : i < l.length), WayP m I l[i].nodes)) := (bP_true fun j h => H.out j h (by rw [Hn.out] at h; omega)).symm
      go_wp2
      go_ret
      exact ⟨ret_bl HT.out, hbel⟩

set_option maxRecDepth 100000 in
set_option maxHeartbeats 1000000 in
theorem allA_any (an : Option Addr) (nn cn : Nat) (aw : Option Addr) (nw cw : Nat) (aa : Option Addr) (na ca : Nat) (bN bW : Nat) (a : Option Addr) (n c : Nat) (l : List AreaD) (bs : List Nat) (nm m : Nat) (I : Nat → Int) (g : Int → Option Int) (w : World) (hT : ARecs w a l bs) (hn : l.length = n) (hm : n ≤ 1048576) (hs : ∀ i (h : i < l.length), l[i].parts.length ≤ 1048576)
    (hM : MapAt w bW nm g) (hg : ∀ x, (g x).isSome = bP (HasI m I x)) :
    Calls Tryz.prog 93 #[.slice a n c, .func (.func 94) #[chV an nn cn aw nw cw aa na ca bN bW] #[]] w fun e w' => e = .returned (.bool (bP (∀ i (h : i < l.length), AreaP m I l[i].parts))) ∧ Bel w w' := by
  have Hn : Hid (l.length = n) := hn
  have Hg : Hid (∀ x, (g x).isSome = bP (HasI m I x)) := hg
  clear hn hg
  go_enter Tryz.func93, Tryz.ntmps93
  go_wp2
  go_loopw [6, 9] (fun _ i wr => ∃ k : Nat, k ≤ n ∧ i = .int .i64 k ∧ (∀ j (h : j < l.length), j < k → AreaP m I l[j].parts) ∧ Bel w wr) (fun _ i _ => n - (intOf i).toNat)
  case atStart => exact ⟨0, Nat.zero_le _, rfl, fun j _ hj => absurd hj (Nat.not_lt_zero _), Bel.refl _⟩
  case round =>
    obtain ⟨k, hk, rfl, hall, hbel⟩ := hrel
    have H : Hid (∀ j (h : j < l.length), j < k → AreaP m I l[j].parts) := hall
    clear hall
    by_cases hlt : k < n
    · have hkl : k < l.length := by rw [Hn.out]; exact hlt
      obtain ⟨b, off, f, rfl, hb, hx⟩ := (hT.bel aRecE hbel).out hkl
      obtain ⟨in0, c0, an1, kn1, a1, k1, bs1, bs2, _, _, _, c2, t2, c1, t1⟩ := hx k hkl
      have hMr := hM.bel (bel_alloc hbel (.cells #[.int .i64 l[k].id, .slice a1 l[k].tags.length k1, .slice an1 l[k].parts.length kn1] 127))
      have t2' := t2.bel partE (bel_alloc (Bel.refl wr) (.cells #[.int .i64 l[k].id, .slice a1 l[k].tags.length k1, .slice an1 l[k].parts.length kn1] 127))
      clear hx hT hM
      cases hf : bP (AreaP m I l[k].parts)
      · have HF : Hid (false = bP (∀ i (h : i < l.length), AreaP m I l[i].parts)) := (bP_false fun h => bP_not hf (h k hkl)).symm
        go_wp2_with fail
        refine (areaOk_any _ _ _ _ _ _ _ _ _ _ _ _ _ _ _ _ _ _ l[k].parts bs1 nm m I g _ t2' rfl (hs k hkl) hMr Hg.out).mono ?_
        rintro e w1 ⟨rfl, hb1⟩
        rw [hf]
        have hB1 := bel_step (bel_alloc hbel _) hb1
        go_wp2
        go_ret
        exact ⟨ret_bl HF.out, hB1⟩
      · have HA : Hid (AreaP m I l[k].parts) := bP_out hf
        go_wp2_with fail
        refine (areaOk_any _ _ _ _ _ _ _ _ _ _ _ _ _ _ _ _ _ _ l[k].parts bs1 nm m I g _ t2' rfl (hs k hkl) hMr Hg.out).mono ?_
        rintro e w1 ⟨rfl, hb1⟩
        rw [hf]
        have hB1 := bel_step (bel_alloc hbel _) hb1
        go_wp2
        go_roundw
        case rel => exact ⟨k + 1, by omega, by go_num, fun j h hj => by
                        (by_cases e : j = k)
                        · subst e; exact HA.out
                        · exact H.out j h (by omega), hB1⟩
        case measure => simp [intOf]; omega
    · have HT : Hid (true = bP (∀ i (h : i < l.length), AreaP m I l[i].parts)) := (bP_true fun j h => H.out j h (by rw [Hn.out] at h; omega)).symm
      go_wp2
      go_ret
      exact ⟨ret_bl HT.out, hbel⟩

set_option maxRecDepth 100000 in
set_option maxHeartbeats 1000000 in
theorem placesN_any (a : Option Addr) (n c : Nat) (l : List NodeD) (bs : List Nat) (w : World) (hT : NRecs w a l bs) (hn : l.length = n) (hm : n ≤ 1048576) :
    Calls Tryz.prog 54 #[.slice a n c] w fun e w' => ∃ b, e = .returned (.map (some b)) ∧ w.heap.size ≤ b ∧ MapAt w' b n (plc (nId l) n) ∧ Bel w w' := by
  have Hn : Hid (l.length = n) := hn
  clear hn
  have hmm := run_mkMap
  have hmk := methN_key
  go_enter Tryz.func54, Tryz.ntmps54
  go_wp2
  go_loopw [4, 5, 11] (fun _ _ i wr => ∃ k : Nat, k ≤ n ∧ i = .int .i64 k ∧ MapAt wr w.heap.size k (plc (nId l) k) ∧ Bel w wr) (fun _ _ i _ => n - (intOf i).toNat)
  case atStart => exact ⟨0, Nat.zero_le _, rfl, MapAt.new w, bel_alloc (Bel.refl _) _⟩
  case round =>
    obtain ⟨k, hk, rfl, hMk, hbel⟩ := hrel
    by_cases hlt : k < n
    · have hkl : k < l.length := by rw [Hn.out]; exact hlt
      obtain ⟨b, off, f, rfl, hb, hx⟩ := (hT.bel nRecE hbel).out hkl
      obtain ⟨in0, _, _, c0, c2, c3, a1, k1, _, c1, t1⟩ := hx k hkl
      have hMr := hMk.bel (bel_alloc (Bel.refl wr) (.cells #[.int .i64 l[k].id, .slice a1 l[k].tags.length k1, .int .i64 l[k].x, .int .i64 l[k].y] 123))
      clear hx hT hMk
      have HI : Hid (nId l k = l[k].id) := nId_at hkl
      go_wp2_with fail
      refine (key_any _ _ _ _ _).mono ?_
      rintro e w1 ⟨rfl, hb1⟩
      have hB1 := bel_step (bel_alloc hbel _) hb1
      obtain ⟨w2, hput, hM2, hg2⟩ := (hMr.bel hb1).put (by unfold maxLen; omega) in0 (c := (k : Int)) ⟨by omega, by omega⟩
      have HM2 : Hid (MapAt w2 w.heap.size (k + 1) (plc (nId l) (k + 1))) := by
        have e : (fun y => if y = l[k].id then some (k : Int) else plc (nId l) k y) = plc (nId l) (k + 1) := by funext y; simp only [plc, HI.out]
        rw [e] at hM2
        exact hM2
      have hB2 : Bel w w2 := bel_grow hB1 hg2 (fun j e => by injection e with e; omega)
      clear hMr hM2 hg2 hB1 hb1 hbel
      go_wp2
      go_roundw
      case rel => exact ⟨k + 1, by omega, by go_num, HM2.out, hB2⟩
      case measure => simp [intOf]; omega
    · have e : k = n := by omega
      subst e
      have HM : Hid (MapAt wr w.heap.size k (plc (nId l) k)) := hMk
      clear hMk
      go_wp2
      go_ret
      exact ⟨_, rfl, Nat.le_refl _, HM.out, hbel⟩

set_option maxRecDepth 100000 in
set_option maxHeartbeats 1000000 in
theorem placesW_any (a : Option Addr) (n c : Nat) (l : List WayD) (bs : List Nat) (w : World) (hT : WRecs w a l bs) (hn : l.length = n) (hm : n ≤ 1048576) :
    Calls Tryz.prog 55 #[.slice a n c] w fun e w' => ∃ b, e = .returned (.map (some b)) ∧ w.heap.size ≤ b ∧ MapAt w' b n (plc (wId l) n) ∧ Bel w w' := by
  have Hn : Hid (l.length = n) := hn
  clear hn
  have hmm := run_mkMap
  have hmk := methW_key
  go_enter Tryz.func55, Tryz.ntmps55
  go_wp2
  go_loopw [4, 5, 11] (fun _ _ i wr => ∃ k : Nat, k ≤ n ∧ i = .int .i64 k ∧ MapAt wr w.heap.size k (plc (wId l) k) ∧ Bel w wr) (fun _ _ i _ => n - (intOf i).toNat)
  case atStart => exact ⟨0, Nat.zero_le _, rfl, MapAt.new w, bel_alloc (Bel.refl _) _⟩
  case round =>
    obtain ⟨k, hk, rfl, hMk, hbel⟩ := hrel
    by_cases hlt : k < n
    · have hkl : k < l.length := by rw [Hn.out]; exact hlt
      obtain ⟨b, off, f, rfl, hb, hx⟩ := (hT.bel wRecE hbel).out hkl
      obtain ⟨in0, c0, an1, kn1, a1, k1, bs1, bs2, _, _, _, c2, t2, c1, t1⟩ := hx k hkl
      have hMr := hMk.bel (bel_alloc (Bel.refl wr) (.cells #[.int .i64 l[k].id, .slice a1 l[k].tags.length k1, .slice an1 l[k].nodes.length kn1] 125))
      clear hx hT hMk
      have HI : Hid (wId l k = l[k].id) := wId_at hkl
      go_wp2_with fail
      refine (key_any _ _ _ _ _).mono ?_
      rintro e w1 ⟨rfl, hb1⟩
      have hB1 := bel_step (bel_alloc hbel _) hb1
      obtain ⟨w2, hput, hM2, hg2⟩ := (hMr.bel hb1).put (by unfold maxLen; omega) in0 (c := (k : Int)) ⟨by omega, by omega⟩
      have HM2 : Hid (MapAt w2 w.heap.size (k + 1) (plc (wId l) (k + 1))) := by
        have e : (fun y => if y = l[k].id then some (k : Int) else plc (wId l) k y) = plc (wId l) (k + 1) := by funext y; simp only [plc, HI.out]
        rw [e] at hM2
        exact hM2
      have hB2 : Bel w w2 := bel_grow hB1 hg2 (fun j e => by injection e with e; omega)
      clear hMr hM2 hg2 hB1 hb1 hbel
      go_wp2
      go_roundw
      case rel => exact ⟨k + 1, by omega, by go_num, HM2.out, hB2⟩
      case measure => simp [intOf]; omega
    · have e : k = n := by omega
      subst e
      have HM : Hid (MapAt wr w.heap.size k (plc (wId l) k)) := hMk
      clear hMk
      go_wp2
      go_ret
      exact ⟨_, rfl, Nat.le_refl _, HM.out, hbel⟩

end Go.Proofs.YtldfcnlhjjiihaaGreat

namespace Go.Proofs.YtldfcnlhjjiihaaGreat
open Go.RowKit Go.Maps

/-- What is asked of a map, but for how many there are. -/
structure ChartP (ns : List NodeD) (ws : List WayD) (rs : List AreaD) (nn nw na : Nat) : Prop where
  b1 : AscP nn (nId ns) (nTg ns)
  b2 : AscP nw (wId ws) (wTg ws)
  b3 : AscP na (aId rs) (aTg rs)
  b4 : ∀ i, i < nn → nPk ns i = true
  b5 : ∀ i (h : i < ws.length), WayP nn (nId ns) ws[i].nodes
  b6 : ∀ i (h : i < rs.length), AreaP nw (wId ws) rs[i].parts

set_option maxRecDepth 100000 in
set_option maxHeartbeats 2000000 in
theorem chartOk_any (an : Option Addr) (nn cn : Nat) (aw : Option Addr) (nw cw : Nat) (aa : Option Addr) (na ca : Nat) (bN bW : Nat) (ns : List NodeD) (ws : List WayD) (rs : List AreaD) (bsN bsW bsA : List Nat) (w : World)
    (hN : NRecs w an ns bsN) (eN : ns.length = nn) (mN : nn ≤ 1048576) (tN : ∀ i (h : i < ns.length), ns[i].tags.length ≤ 1048576)
    (hW : WRecs w aw ws bsW) (eW : ws.length = nw) (mW : nw ≤ 1048576) (tW : ∀ i (h : i < ws.length), ws[i].nodes.length ≤ 1048576 ∧ ws[i].tags.length ≤ 1048576)
    (hA : ARecs w aa rs bsA) (eA : rs.length = na) (mA : na ≤ 1048576) (tA : ∀ i (h : i < rs.length), rs[i].parts.length ≤ 1048576 ∧ rs[i].tags.length ≤ 1048576)
    (gN : MapAt w bN nn (plc (nId ns) nn)) (gW : MapAt w bW nw (plc (wId ws) nw)) :
    Calls Tryz.prog 56 #[chV an nn cn aw nw cw aa na ca bN bW] w fun e w' => e = .returned (.bool (bP (ChartP ns ws rs nn nw na))) ∧ Bel w w' := by
  have S0 : Bel w (w.alloc (.cells #[.slice an nn cn, .slice aw nw cw, .slice aa na ca, .map (some bN), .map (some bW)] 76)) := bel_alloc (Bel.refl _) _
  have X0 : Blk (w.alloc (.cells #[.slice an nn cn, .slice aw nw cw, .slice aa na ca, .map (some bN), .map (some bW)] 76)) w.heap.size [.slice an nn cn, .slice aw nw cw, .slice aa na ca, .map (some bN), .map (some bW)] := Blk.new w [.slice an nn cn, .slice aw nw cw, .slice aa na ca, .map (some bN), .map (some bW)] _
  cases h1 : bP (AscP nn (nId ns) (nTg ns))
  · have HF : Hid (false = bP (ChartP ns ws rs nn nw na)) := (bP_false fun h => bP_not h1 h.b1).symm
    go_enter Tryz.func56, Tryz.ntmps56
    go_wp2_with fail
    refine (ascN_any _ _ _ ns bsN _ (hN.bel nRecE S0) eN mN tN).mono ?_
    rintro e w1 ⟨rfl, hb1⟩
    rw [h1]
    have S1 := bel_step S0 hb1
    go_wp2
    go_ret
    exact ⟨ret_bl HF.out, S1⟩
  · have q1 : Hid (AscP nn (nId ns) (nTg ns)) := bP_out h1
    cases h2 : bP (AscP nw (wId ws) (wTg ws))
    · have HF : Hid (false = bP (ChartP ns ws rs nn nw na)) := (bP_false fun h => bP_not h2 h.b2).symm
      go_enter Tryz.func56, Tryz.ntmps56
      go_wp2_with fail
      refine (ascN_any _ _ _ ns bsN _ (hN.bel nRecE S0) eN mN tN).mono ?_
      rintro e w1 ⟨rfl, hb1⟩
      rw [h1]
      have S1 := bel_step S0 hb1
      have X1 := X0.bel hb1
      have x10 : w1.cell? ⟨w.heap.size, 0, none⟩ = some (.slice an nn cn) := X1.cell 0 (by simp)
      have x11 : w1.cell? ⟨w.heap.size, 1, none⟩ = some (.slice aw nw cw) := X1.cell 1 (by simp)
      have x12 : w1.cell? ⟨w.heap.size, 2, none⟩ = some (.slice aa na ca) := X1.cell 2 (by simp)
      have x13 : w1.cell? ⟨w.heap.size, 3, none⟩ = some (.map (some bN)) := X1.cell 3 (by simp)
      have x14 : w1.cell? ⟨w.heap.size, 4, none⟩ = some (.map (some bW)) := X1.cell 4 (by simp)
      go_wp2_with fail
      refine (ascW_any _ _ _ ws bsW _ (hW.bel wRecE S1) eW mW tW).mono ?_
      rintro e w2 ⟨rfl, hb2⟩
      rw [h2]
      have S2 := bel_step S1 hb2
      go_wp2
      go_ret
      exact ⟨ret_bl HF.out, S2⟩
    · have q2 : Hid (AscP nw (wId ws) (wTg ws)) := bP_out h2
      cases h3 : bP (AscP na (aId rs) (aTg rs))
      · have HF : Hid (false = bP (ChartP ns ws rs nn nw na)) := (bP_false fun h => bP_not h3 h.b3).symm
        go_enter Tryz.func56, Tryz.ntmps56
        go_wp2_with fail
        refine (ascN_any _ _ _ ns bsN _ (hN.bel nRecE S0) eN mN tN).mono ?_
        rintro e w1 ⟨rfl, hb1⟩
        rw [h1]
        have S1 := bel_step S0 hb1
        have X1 := X0.bel hb1
        have x10 : w1.cell? ⟨w.heap.size, 0, none⟩ = some (.slice an nn cn) := X1.cell 0 (by simp)
        have x11 : w1.cell? ⟨w.heap.size, 1, none⟩ = some (.slice aw nw cw) := X1.cell 1 (by simp)
        have x12 : w1.cell? ⟨w.heap.size, 2, none⟩ = some (.slice aa na ca) := X1.cell 2 (by simp)
        have x13 : w1.cell? ⟨w.heap.size, 3, none⟩ = some (.map (some bN)) := X1.cell 3 (by simp)
        have x14 : w1.cell? ⟨w.heap.size, 4, none⟩ = some (.map (some bW)) := X1.cell 4 (by simp)
        go_wp2_with fail
        refine (ascW_any _ _ _ ws bsW _ (hW.bel wRecE S1) eW mW tW).mono ?_
        rintro e w2 ⟨rfl, hb2⟩
        rw [h2]
        have S2 := bel_step S1 hb2
        have X2 := X1.bel hb2
        have x20 : w2.cell? ⟨w.heap.size, 0, none⟩ = some (.slice an nn cn) := X2.cell 0 (by simp)
        have x21 : w2.cell? ⟨w.heap.size, 1, none⟩ = some (.slice aw nw cw) := X2.cell 1 (by simp)
        have x22 : w2.cell? ⟨w.heap.size, 2, none⟩ = some (.slice aa na ca) := X2.cell 2 (by simp)
        have x23 : w2.cell? ⟨w.heap.size, 3, none⟩ = some (.map (some bN)) := X2.cell 3 (by simp)
        have x24 : w2.cell? ⟨w.heap.size, 4, none⟩ = some (.map (some bW)) := X2.cell 4 (by simp)
        go_wp2_with fail
        refine (ascA_any _ _ _ rs bsA _ (hA.bel aRecE S2) eA mA tA).mono ?_
        rintro e w3 ⟨rfl, hb3⟩
        rw [h3]
        have S3 := bel_step S2 hb3
        go_wp2
        go_ret
        exact ⟨ret_bl HF.out, S3⟩
      · have q3 : Hid (AscP na (aId rs) (aTg rs)) := bP_out h3
        cases h4 : bP (∀ i, i < nn → nPk ns i = true)
        · have HF : Hid (false = bP (ChartP ns ws rs nn nw na)) := (bP_false fun h => bP_not h4 h.b4).symm
          go_enter Tryz.func56, Tryz.ntmps56
          go_wp2_with fail
          refine (ascN_any _ _ _ ns bsN _ (hN.bel nRecE S0) eN mN tN).mono ?_
          rintro e w1 ⟨rfl, hb1⟩
          rw [h1]
          have S1 := bel_step S0 hb1
          have X1 := X0.bel hb1
          have x10 : w1.cell? ⟨w.heap.size, 0, none⟩ = some (.slice an nn cn) := X1.cell 0 (by simp)
          have x11 : w1.cell? ⟨w.heap.size, 1, none⟩ = some (.slice aw nw cw) := X1.cell 1 (by simp)
          have x12 : w1.cell? ⟨w.heap.size, 2, none⟩ = some (.slice aa na ca) := X1.cell 2 (by simp)
          have x13 : w1.cell? ⟨w.heap.size, 3, none⟩ = some (.map (some bN)) := X1.cell 3 (by simp)
          have x14 : w1.cell? ⟨w.heap.size, 4, none⟩ = some (.map (some bW)) := X1.cell 4 (by simp)
          go_wp2_with fail
          refine (ascW_any _ _ _ ws bsW _ (hW.bel wRecE S1) eW mW tW).mono ?_
          rintro e w2 ⟨rfl, hb2⟩
          rw [h2]
          have S2 := bel_step S1 hb2
          have X2 := X1.bel hb2
          have x20 : w2.cell? ⟨w.heap.size, 0, none⟩ = some (.slice an nn cn) := X2.cell 0 (by simp)
          have x21 : w2.cell? ⟨w.heap.size, 1, none⟩ = some (.slice aw nw cw) := X2.cell 1 (by simp)
          have x22 : w2.cell? ⟨w.heap.size, 2, none⟩ = some (.slice aa na ca) := X2.cell 2 (by simp)
          have x23 : w2.cell? ⟨w.heap.size, 3, none⟩ = some (.map (some bN)) := X2.cell 3 (by simp)
          have x24 : w2.cell? ⟨w.heap.size, 4, none⟩ = some (.map (some bW)) := X2.cell 4 (by simp)
          go_wp2_with fail
          refine (ascA_any _ _ _ rs bsA _ (hA.bel aRecE S2) eA mA tA).mono ?_
          rintro e w3 ⟨rfl, hb3⟩
          rw [h3]
          have S3 := bel_step S2 hb3
          have X3 := X2.bel hb3
          have x30 : w3.cell? ⟨w.heap.size, 0, none⟩ = some (.slice an nn cn) := X3.cell 0 (by simp)
          have x31 : w3.cell? ⟨w.heap.size, 1, none⟩ = some (.slice aw nw cw) := X3.cell 1 (by simp)
          have x32 : w3.cell? ⟨w.heap.size, 2, none⟩ = some (.slice aa na ca) := X3.cell 2 (by simp)
          have x33 : w3.cell? ⟨w.heap.size, 3, none⟩ = some (.map (some bN)) := X3.cell 3 (by simp)
          have x34 : w3.cell? ⟨w.heap.size, 4, none⟩ = some (.map (some bW)) := X3.cell 4 (by simp)
          go_wp2_with fail
          refine (allN_any _ _ _ ns bsN _ (hN.bel nRecE S3) eN mN).mono ?_
          rintro e w4 ⟨rfl, hb4⟩
          rw [h4]
          have S4 := bel_step S3 hb4
          go_wp2
          go_ret
          exact ⟨ret_bl HF.out, S4⟩
        · have q4 : Hid (∀ i, i < nn → nPk ns i = true) := bP_out h4
          cases h5 : bP (∀ i (h : i < ws.length), WayP nn (nId ns) ws[i].nodes)
          · have HF : Hid (false = bP (ChartP ns ws rs nn nw na)) := (bP_false fun h => bP_not h5 h.b5).symm
            go_enter Tryz.func56, Tryz.ntmps56
            go_wp2_with fail
            refine (ascN_any _ _ _ ns bsN _ (hN.bel nRecE S0) eN mN tN).mono ?_
            rintro e w1 ⟨rfl, hb1⟩
            rw [h1]
            have S1 := bel_step S0 hb1
            have X1 := X0.bel hb1
            have x10 : w1.cell? ⟨w.heap.size, 0, none⟩ = some (.slice an nn cn) := X1.cell 0 (by simp)
            have x11 : w1.cell? ⟨w.heap.size, 1, none⟩ = some (.slice aw nw cw) := X1.cell 1 (by simp)
            have x12 : w1.cell? ⟨w.heap.size, 2, none⟩ = some (.slice aa na ca) := X1.cell 2 (by simp)
            have x13 : w1.cell? ⟨w.heap.size, 3, none⟩ = some (.map (some bN)) := X1.cell 3 (by simp)
            have x14 : w1.cell? ⟨w.heap.size, 4, none⟩ = some (.map (some bW)) := X1.cell 4 (by simp)
            go_wp2_with fail
            refine (ascW_any _ _ _ ws bsW _ (hW.bel wRecE S1) eW mW tW).mono ?_
            rintro e w2 ⟨rfl, hb2⟩
            rw [h2]
            have S2 := bel_step S1 hb2
            have X2 := X1.bel hb2
            have x20 : w2.cell? ⟨w.heap.size, 0, none⟩ = some (.slice an nn cn) := X2.cell 0 (by simp)
            have x21 : w2.cell? ⟨w.heap.size, 1, none⟩ = some (.slice aw nw cw) := X2.cell 1 (by simp)
            have x22 : w2.cell? ⟨w.heap.size, 2, none⟩ = some (.slice aa na ca) := X2.cell 2 (by simp)
            have x23 : w2.cell? ⟨w.heap.size, 3, none⟩ = some (.map (some bN)) := X2.cell 3 (by simp)
            have x24 : w2.cell? ⟨w.heap.size, 4, none⟩ = some (.map (some bW)) := X2.cell 4 (by simp)
            go_wp2_with fail
            refine (ascA_any _ _ _ rs bsA _ (hA.bel aRecE S2) eA mA tA).mono ?_
            rintro e w3 ⟨rfl, hb3⟩
            rw [h3]
            have S3 := bel_step S2 hb3
            have X3 := X2.bel hb3
            have x30 : w3.cell? ⟨w.heap.size, 0, none⟩ = some (.slice an nn cn) := X3.cell 0 (by simp)
            have x31 : w3.cell? ⟨w.heap.size, 1, none⟩ = some (.slice aw nw cw) := X3.cell 1 (by simp)
            have x32 : w3.cell? ⟨w.heap.size, 2, none⟩ = some (.slice aa na ca) := X3.cell 2 (by simp)
            have x33 : w3.cell? ⟨w.heap.size, 3, none⟩ = some (.map (some bN)) := X3.cell 3 (by simp)
            have x34 : w3.cell? ⟨w.heap.size, 4, none⟩ = some (.map (some bW)) := X3.cell 4 (by simp)
            go_wp2_with fail
            refine (allN_any _ _ _ ns bsN _ (hN.bel nRecE S3) eN mN).mono ?_
            rintro e w4 ⟨rfl, hb4⟩
            rw [h4]
            have S4 := bel_step S3 hb4
            have X4 := X3.bel hb4
            have x40 : w4.cell? ⟨w.heap.size, 0, none⟩ = some (.slice an nn cn) := X4.cell 0 (by simp)
            have x41 : w4.cell? ⟨w.heap.size, 1, none⟩ = some (.slice aw nw cw) := X4.cell 1 (by simp)
            have x42 : w4.cell? ⟨w.heap.size, 2, none⟩ = some (.slice aa na ca) := X4.cell 2 (by simp)
            have x43 : w4.cell? ⟨w.heap.size, 3, none⟩ = some (.map (some bN)) := X4.cell 3 (by simp)
            have x44 : w4.cell? ⟨w.heap.size, 4, none⟩ = some (.map (some bW)) := X4.cell 4 (by simp)
            go_wp2_with fail
            refine (allW_any _ _ _ _ _ _ _ _ _ _ _ _ _ _ ws bsW nn nn (nId ns) (plc (nId ns) nn) _ (hW.bel wRecE S4) eW mW (fun i h => (tW i h).1) (gN.bel S4) (plc_some (nId ns) · nn)).mono ?_
            rintro e w5 ⟨rfl, hb5⟩
            rw [h5]
            have S5 := bel_step S4 hb5
            go_wp2
            go_ret
            exact ⟨ret_bl HF.out, S5⟩
          · have q5 : Hid (∀ i (h : i < ws.length), WayP nn (nId ns) ws[i].nodes) := bP_out h5
            cases h6 : bP (∀ i (h : i < rs.length), AreaP nw (wId ws) rs[i].parts)
            · have HF : Hid (false = bP (ChartP ns ws rs nn nw na)) := (bP_false fun h => bP_not h6 h.b6).symm
              go_enter Tryz.func56, Tryz.ntmps56
              go_wp2_with fail
              refine (ascN_any _ _ _ ns bsN _ (hN.bel nRecE S0) eN mN tN).mono ?_
              rintro e w1 ⟨rfl, hb1⟩
              rw [h1]
              have S1 := bel_step S0 hb1
              have X1 := X0.bel hb1
              have x10 : w1.cell? ⟨w.heap.size, 0, none⟩ = some (.slice an nn cn) := X1.cell 0 (by simp)
              have x11 : w1.cell? ⟨w.heap.size, 1, none⟩ = some (.slice aw nw cw) := X1.cell 1 (by simp)
              have x12 : w1.cell? ⟨w.heap.size, 2, none⟩ = some (.slice aa na ca) := X1.cell 2 (by simp)
              have x13 : w1.cell? ⟨w.heap.size, 3, none⟩ = some (.map (some bN)) := X1.cell 3 (by simp)
              have x14 : w1.cell? ⟨w.heap.size, 4, none⟩ = some (.map (some bW)) := X1.cell 4 (by simp)
              go_wp2_with fail
              refine (ascW_any _ _ _ ws bsW _ (hW.bel wRecE S1) eW mW tW).mono ?_
              rintro e w2 ⟨rfl, hb2⟩
              rw [h2]
              have S2 := bel_step S1 hb2
              have X2 := X1.bel hb2
              have x20 : w2.cell? ⟨w.heap.size, 0, none⟩ = some (.slice an nn cn) := X2.cell 0 (by simp)
              have x21 : w2.cell? ⟨w.heap.size, 1, none⟩ = some (.slice aw nw cw) := X2.cell 1 (by simp)
              have x22 : w2.cell? ⟨w.heap.size, 2, none⟩ = some (.slice aa na ca) := X2.cell 2 (by simp)
              have x23 : w2.cell? ⟨w.heap.size, 3, none⟩ = some (.map (some bN)) := X2.cell 3 (by simp)
              have x24 : w2.cell? ⟨w.heap.size, 4, none⟩ = some (.map (some bW)) := X2.cell 4 (by simp)
              go_wp2_with fail
              refine (ascA_any _ _ _ rs bsA _ (hA.bel aRecE S2) eA mA tA).mono ?_
              rintro e w3 ⟨rfl, hb3⟩
              rw [h3]
              have S3 := bel_step S2 hb3
              have X3 := X2.bel hb3
              have x30 : w3.cell? ⟨w.heap.size, 0, none⟩ = some (.slice an nn cn) := X3.cell 0 (by simp)
              have x31 : w3.cell? ⟨w.heap.size, 1, none⟩ = some (.slice aw nw cw) := X3.cell 1 (by simp)
              have x32 : w3.cell? ⟨w.heap.size, 2, none⟩ = some (.slice aa na ca) := X3.cell 2 (by simp)
              have x33 : w3.cell? ⟨w.heap.size, 3, none⟩ = some (.map (some bN)) := X3.cell 3 (by simp)
              have x34 : w3.cell? ⟨w.heap.size, 4, none⟩ = some (.map (some bW)) := X3.cell 4 (by simp)
              go_wp2_with fail
              refine (allN_any _ _ _ ns bsN _ (hN.bel nRecE S3) eN mN).mono ?_
              rintro e w4 ⟨rfl, hb4⟩
              rw [h4]
              have S4 := bel_step S3 hb4
              have X4 := X3.bel hb4
              have x40 : w4.cell? ⟨w.heap.size, 0, none⟩ = some (.slice an nn cn) := X4.cell 0 (by simp)
              have x41 : w4.cell? ⟨w.heap.size, 1, none⟩ = some (.slice aw nw cw) := X4.cell 1 (by simp)
              have x42 : w4.cell? ⟨w.heap.size, 2, none⟩ = some (.slice aa na ca) := X4.cell 2 (by simp)
              have x43 : w4.cell? ⟨w.heap.size, 3, none⟩ = some (.map (some bN)) := X4.cell 3 (by simp)
              have x44 : w4.cell? ⟨w.heap.size, 4, none⟩ = some (.map (some bW)) := X4.cell 4 (by simp)
              go_wp2_with fail
              refine (allW_any _ _ _ _ _ _ _ _ _ _ _ _ _ _ ws bsW nn nn (nId ns) (plc (nId ns) nn) _ (hW.bel wRecE S4) eW mW (fun i h => (tW i h).1) (gN.bel S4) (plc_some (nId ns) · nn)).mono ?_
              rintro e w5 ⟨rfl, hb5⟩
              rw [h5]
              have S5 := bel_step S4 hb5
              have X5 := X4.bel hb5
              have x50 : w5.cell? ⟨w.heap.size, 0, none⟩ = some (.slice an nn cn) := X5.cell 0 (by simp)
              have x51 : w5.cell? ⟨w.heap.size, 1, none⟩ = some (.slice aw nw cw) := X5.cell 1 (by simp)
              have x52 : w5.cell? ⟨w.heap.size, 2, none⟩ = some (.slice aa na ca) := X5.cell 2 (by simp)
              have x53 : w5.cell? ⟨w.heap.size, 3, none⟩ = some (.map (some bN)) := X5.cell 3 (by simp)
              have x54 : w5.cell? ⟨w.heap.size, 4, none⟩ = some (.map (some bW)) := X5.cell 4 (by simp)
              go_wp2_with fail
              refine (allA_any _ _ _ _ _ _ _ _ _ _ _ _ _ _ rs bsA nw nw (wId ws) (plc (wId ws) nw) _ (hA.bel aRecE S5) eA mA (fun i h => (tA i h).1) (gW.bel S5) (plc_some (wId ws) · nw)).mono ?_
              rintro e w6 ⟨rfl, hb6⟩
              rw [h6]
              have S6 := bel_step S5 hb6
              go_wp2
              go_ret
              exact ⟨ret_bl HF.out, S6⟩
            · have HT : Hid (true = bP (ChartP ns ws rs nn nw na)) := (bP_true ⟨q1.out, q2.out, q3.out, q4.out, q5.out, bP_out h6⟩).symm
              go_enter Tryz.func56, Tryz.ntmps56
              go_wp2_with fail
              refine (ascN_any _ _ _ ns bsN _ (hN.bel nRecE S0) eN mN tN).mono ?_
              rintro e w1 ⟨rfl, hb1⟩
              rw [h1]
              have S1 := bel_step S0 hb1
              have X1 := X0.bel hb1
              have x10 : w1.cell? ⟨w.heap.size, 0, none⟩ = some (.slice an nn cn) := X1.cell 0 (by simp)
              have x11 : w1.cell? ⟨w.heap.size, 1, none⟩ = some (.slice aw nw cw) := X1.cell 1 (by simp)
              have x12 : w1.cell? ⟨w.heap.size, 2, none⟩ = some (.slice aa na ca) := X1.cell 2 (by simp)
              have x13 : w1.cell? ⟨w.heap.size, 3, none⟩ = some (.map (some bN)) := X1.cell 3 (by simp)
              have x14 : w1.cell? ⟨w.heap.size, 4, none⟩ = some (.map (some bW)) := X1.cell 4 (by simp)
              go_wp2_with fail
              refine (ascW_any _ _ _ ws bsW _ (hW.bel wRecE S1) eW mW tW).mono ?_
              rintro e w2 ⟨rfl, hb2⟩
              rw [h2]
              have S2 := bel_step S1 hb2
              have X2 := X1.bel hb2
              have x20 : w2.cell? ⟨w.heap.size, 0, none⟩ = some (.slice an nn cn) := X2.cell 0 (by simp)
              have x21 : w2.cell? ⟨w.heap.size, 1, none⟩ = some (.slice aw nw cw) := X2.cell 1 (by simp)
              have x22 : w2.cell? ⟨w.heap.size, 2, none⟩ = some (.slice aa na ca) := X2.cell 2 (by simp)
              have x23 : w2.cell? ⟨w.heap.size, 3, none⟩ = some (.map (some bN)) := X2.cell 3 (by simp)
              have x24 : w2.cell? ⟨w.heap.size, 4, none⟩ = some (.map (some bW)) := X2.cell 4 (by simp)
              go_wp2_with fail
              refine (ascA_any _ _ _ rs bsA _ (hA.bel aRecE S2) eA mA tA).mono ?_
              rintro e w3 ⟨rfl, hb3⟩
              rw [h3]
              have S3 := bel_step S2 hb3
              have X3 := X2.bel hb3
              have x30 : w3.cell? ⟨w.heap.size, 0, none⟩ = some (.slice an nn cn) := X3.cell 0 (by simp)
              have x31 : w3.cell? ⟨w.heap.size, 1, none⟩ = some (.slice aw nw cw) := X3.cell 1 (by simp)
              have x32 : w3.cell? ⟨w.heap.size, 2, none⟩ = some (.slice aa na ca) := X3.cell 2 (by simp)
              have x33 : w3.cell? ⟨w.heap.size, 3, none⟩ = some (.map (some bN)) := X3.cell 3 (by simp)
              have x34 : w3.cell? ⟨w.heap.size, 4, none⟩ = some (.map (some bW)) := X3.cell 4 (by simp)
              go_wp2_with fail
              refine (allN_any _ _ _ ns bsN _ (hN.bel nRecE S3) eN mN).mono ?_
              rintro e w4 ⟨rfl, hb4⟩
              rw [h4]
              have S4 := bel_step S3 hb4
              have X4 := X3.bel hb4
              have x40 : w4.cell? ⟨w.heap.size, 0, none⟩ = some (.slice an nn cn) := X4.cell 0 (by simp)
              have x41 : w4.cell? ⟨w.heap.size, 1, none⟩ = some (.slice aw nw cw) := X4.cell 1 (by simp)
              have x42 : w4.cell? ⟨w.heap.size, 2, none⟩ = some (.slice aa na ca) := X4.cell 2 (by simp)
              have x43 : w4.cell? ⟨w.heap.size, 3, none⟩ = some (.map (some bN)) := X4.cell 3 (by simp)
              have x44 : w4.cell? ⟨w.heap.size, 4, none⟩ = some (.map (some bW)) := X4.cell 4 (by simp)
              go_wp2_with fail
              refine (allW_any _ _ _ _ _ _ _ _ _ _ _ _ _ _ ws bsW nn nn (nId ns) (plc (nId ns) nn) _ (hW.bel wRecE S4) eW mW (fun i h => (tW i h).1) (gN.bel S4) (plc_some (nId ns) · nn)).mono ?_
              rintro e w5 ⟨rfl, hb5⟩
              rw [h5]
              have S5 := bel_step S4 hb5
              have X5 := X4.bel hb5
              have x50 : w5.cell? ⟨w.heap.size, 0, none⟩ = some (.slice an nn cn) := X5.cell 0 (by simp)
              have x51 : w5.cell? ⟨w.heap.size, 1, none⟩ = some (.slice aw nw cw) := X5.cell 1 (by simp)
              have x52 : w5.cell? ⟨w.heap.size, 2, none⟩ = some (.slice aa na ca) := X5.cell 2 (by simp)
              have x53 : w5.cell? ⟨w.heap.size, 3, none⟩ = some (.map (some bN)) := X5.cell 3 (by simp)
              have x54 : w5.cell? ⟨w.heap.size, 4, none⟩ = some (.map (some bW)) := X5.cell 4 (by simp)
              go_wp2_with fail
              refine (allA_any _ _ _ _ _ _ _ _ _ _ _ _ _ _ rs bsA nw nw (wId ws) (plc (wId ws) nw) _ (hA.bel aRecE S5) eA mA (fun i h => (tA i h).1) (gW.bel S5) (plc_some (wId ws) · nw)).mono ?_
              rintro e w6 ⟨rfl, hb6⟩
              rw [h6]
              have S6 := bel_step S5 hb6
              go_wp2
              go_ret
              exact ⟨ret_bl HT.out, S6⟩
end Go.Proofs.YtldfcnlhjjiihaaGreat

namespace Go.Proofs.YtldfcnlhjjiihaaGreat
open Go.RowKit Go.Maps

/-- The cells of the first k records. -/
def recs (R : Nat → List Value) (k : Nat) : List Value := (List.range k).flatMap R
theorem recs_succ (R : Nat → List Value) (k : Nat) : recs R (k + 1) = recs R k ++ R k := by simp [recs, List.range_succ]
theorem recs_len {R : Nat → List Value} {q : Nat} (h : ∀ i, (R i).length = q) : ∀ k, (recs R k).length = k * q
  | 0 => by simp [recs]
  | k + 1 => by rw [recs_succ, List.length_append, recs_len h k, h k, Nat.add_mul, Nat.one_mul]
theorem recs_at {R : Nat → List Value} {q : Nat} (h : ∀ i, (R i).length = q) {i j : Nat} (hj : j < q) : ∀ k, i < k → (recs R k)[i * q + j]? = (R i)[j]?
  | 0, hk => absurd hk (Nat.not_lt_zero _)
  | k + 1, hk => by
    rw [recs_succ]
    by_cases e : i = k
    · subst e
      rw [List.getElem?_append_right (by rw [recs_len h]; omega), recs_len h]
      congr 1; omega
    · have h1 : i + 1 ≤ k := by omega
      have h2 : i * q + q ≤ k * q := by have := Nat.mul_le_mul_right q h1; rw [Nat.add_mul, Nat.one_mul] at this; exact this
      rw [List.getElem?_append_left (by rw [recs_len h]; omega)]
      exact recs_at h hj k (by omega)

theorem own_kept {w w' : World} {base : Nat} {e : TypeId} {q n : Nat} {v : Value} {xs : List Value} {C : Nat} (h : w.ownsRow base e q v n xs) (hg : w.grownBy w' (some C)) (hC : C < base) : w'.ownsRow base e q v n xs := by
  refine h.kept hg ?_
  by_cases hv : v.ownBlock = none
  · exact .inl hv
  · refine .inr fun e => ?_
    have := (h.lt C e).1
    omega
theorem own_bel {w w' : World} {base : Nat} {e : TypeId} {q n : Nat} {v : Value} {xs : List Value} (h : w.ownsRow base e q v n xs) (hb : Bel w w') : w'.ownsRow base e q v n xs := by
  obtain ⟨h1, h2⟩ := h
  refine ⟨h1, ?_⟩
  rcases h2 with h2 | ⟨g, cap, cur, e1, e2, e3, e4⟩
  · exact .inl h2
  · have hlt : g < w.heap.size := by
      rcases Nat.lt_or_ge g w.heap.size with h | h
      · exact h
      · rw [Array.getElem?_eq_none h] at e3; cases e3
    exact .inr ⟨g, cap, cur, e1, e2, by rw [hb.out.block g hlt]; exact e3, e4⟩

/-- A row of the call's own as a slice that is read. -/
theorem own_sl {α : Type} {q : Nat} {E : Elem α} {w : World} {base : Nat} {e : TypeId} {v : Value} {l : List α} {n : Nat} {R : Nat → List Value} (hl : l.length = n) (hR : ∀ i, (R i).length = q) (h : w.ownsRow base e q v n (recs R n)) (f : Nat → List Nat)
    (hE : ∀ i (hi : i < l.length) (b o : Nat), (∀ j (hj : j < (R i).length), w.cell? ⟨b, o + j, none⟩ = some (R i)[j]) → E w b o l[i] (f i)) :
    ∃ a c bs, v = .slice a n c ∧ Sl q E w a l bs ∧ ∀ x ∈ bs, base ≤ x ∨ ∃ i, i < n ∧ x ∈ f i := by
  by_cases h0 : n = 0
  · subst h0
    have : l = [] := List.length_eq_zero_iff.1 hl
    subst this
    rcases h.2 with ⟨rfl, _⟩ | ⟨g, cap, cur, rfl, _⟩
    · exact ⟨_, _, [], rfl, Sl.nil, fun x hx => nomatch hx⟩
    · exact ⟨_, _, [], rfl, Sl.nil, fun x hx => nomatch hx⟩
  · rcases h.2 with ⟨_, hz⟩ | ⟨g, cap, cur, rfl, hg, e3, _⟩
    · exact absurd hz h0
    · have hlt : g < w.heap.size := by
        rcases Nat.lt_or_ge g w.heap.size with h | h
        · exact h
        · rw [Array.getElem?_eq_none h] at e3; cases e3
      refine ⟨_, _, g :: (List.range l.length).flatMap f, rfl, .inr ⟨g, 0, f, rfl, hlt, rfl, fun i hi => hE i hi _ _ fun j hj => ?_⟩, fun x hx => ?_⟩
      · have hj' : j < q := by rw [hR] at hj; exact hj
        have hin : i < n := by omega
        have h2 : i * q + q ≤ n * q := by have := Nat.mul_le_mul_right q (show i + 1 ≤ n by omega); rw [Nat.add_mul, Nat.one_mul] at this; exact this
        rw [Nat.zero_add, h.cellAt (i * q + j) (by omega), recs_at hR hj' n hin, List.getElem?_eq_getElem hj]
      · rcases List.mem_cons.1 hx with rfl | hx
        · exact .inl hg
        · obtain ⟨i, hi, hx⟩ := List.mem_flatMap.1 hx
          exact .inr ⟨i, by rw [← hl]; exact List.mem_range.1 hi, hx⟩

/-- The slices that nodes, ways and areas lead to, named. -/
theorem name_nodes {w : World} {a : Option Addr} {l : List NodeD} {bs : List Nat} (h : Nodes w a l bs) :
    ∃ (A : Nat → Option Addr) (C : Nat → Nat) (f : Nat → List Nat), (∀ i, i < l.length → ∀ x ∈ f i, x ∈ bs) ∧ ∀ i (hi : i < l.length), ∃ b off, a = some ⟨b, off, none⟩ ∧ b < w.heap.size ∧ In64 l[i].id ∧ In64 l[i].x ∧ In64 l[i].y ∧
      w.cell? ⟨b, off + i * 4, none⟩ = some (.int .i64 l[i].id) ∧ w.cell? ⟨b, off + i * 4 + 1, none⟩ = some (.int .i64 l[i].x) ∧ w.cell? ⟨b, off + i * 4 + 2, none⟩ = some (.int .i64 l[i].y) ∧
      l[i].tags.length ≤ maxLen ∧ w.cell? ⟨b, off + i * 4 + 3, none⟩ = some (.slice (A i) l[i].tags.length (C i)) ∧ Tags w (A i) l[i].tags (f i) := by
  rcases h with ⟨rfl, _⟩ | ⟨b, off, f, ha, hb, rfl, hx⟩
  · exact ⟨fun _ => none, fun _ => 0, fun _ => [], fun i hi => absurd hi (Nat.not_lt_zero _), fun i hi => absurd hi (Nat.not_lt_zero _)⟩
  · have key : ∀ i, i < l.length → ∃ p : Option Addr × Nat, ∃ hi : i < l.length, l[i].tags.length ≤ maxLen ∧ w.cell? ⟨b, off + i * 4 + 3, none⟩ = some (.slice p.1 l[i].tags.length p.2) ∧ Tags w p.1 l[i].tags (f i) := fun i hi => by
      obtain ⟨_, _, _, _, _, _, a', c', h1, h2, h3⟩ := hx i hi
      exact ⟨(a', c'), hi, h1, h2, h3⟩
    obtain ⟨p, hp⟩ := Go.Deep.choose_lt key
    refine ⟨fun i => (p i).1, fun i => (p i).2, f, fun i hi x hxi => List.mem_cons_of_mem _ (List.mem_flatMap.2 ⟨i, List.mem_range.2 hi, hxi⟩), fun i hi => ?_⟩
    obtain ⟨i1, i2, i3, c0, c1, c2, _⟩ := hx i hi
    obtain ⟨_, h1, h2, h3⟩ := hp i hi
    exact ⟨b, off, ha, hb, i1, i2, i3, c0, c1, c2, h1, h2, h3⟩
theorem name_ways {w : World} {a : Option Addr} {l : List WayD} {bs : List Nat} (h : Ways w a l bs) :
    ∃ (A : Nat → Option Addr) (C : Nat → Nat) (A' : Nat → Option Addr) (C' : Nat → Nat) (f1 f2 : Nat → List Nat), (∀ i, i < l.length → ∀ x ∈ f1 i ++ f2 i, x ∈ bs) ∧ ∀ i (hi : i < l.length), ∃ b off, a = some ⟨b, off, none⟩ ∧ b < w.heap.size ∧ In64 l[i].id ∧
      w.cell? ⟨b, off + i * 3, none⟩ = some (.int .i64 l[i].id) ∧ l[i].nodes.length ≤ maxLen ∧ l[i].tags.length ≤ maxLen ∧ w.cell? ⟨b, off + i * 3 + 1, none⟩ = some (.slice (A i) l[i].nodes.length (C i)) ∧ Ints w (A i) l[i].nodes (f1 i) ∧
      w.cell? ⟨b, off + i * 3 + 2, none⟩ = some (.slice (A' i) l[i].tags.length (C' i)) ∧ Tags w (A' i) l[i].tags (f2 i) := by
  rcases h with ⟨rfl, _⟩ | ⟨b, off, f, ha, hb, rfl, hx⟩
  · exact ⟨fun _ => none, fun _ => 0, fun _ => none, fun _ => 0, fun _ => [], fun _ => [], fun i hi => absurd hi (Nat.not_lt_zero _), fun i hi => absurd hi (Nat.not_lt_zero _)⟩
  · have key : ∀ i, i < l.length → ∃ p : (Option Addr × Nat) × (Option Addr × Nat) × (List Nat × List Nat), ∃ hi : i < l.length, f i = p.2.2.1 ++ p.2.2.2 ∧ l[i].nodes.length ≤ maxLen ∧ l[i].tags.length ≤ maxLen ∧ w.cell? ⟨b, off + i * 3 + 1, none⟩ = some (.slice p.1.1 l[i].nodes.length p.1.2) ∧ Ints w p.1.1 l[i].nodes p.2.2.1 ∧
        w.cell? ⟨b, off + i * 3 + 2, none⟩ = some (.slice p.2.1.1 l[i].tags.length p.2.1.2) ∧ Tags w p.2.1.1 l[i].tags p.2.2.2 := fun i hi => by
      obtain ⟨_, _, a', c', a'', c'', b1, b2, h0, h1, h2, h3, h4, h5, h6⟩ := hx i hi
      exact ⟨((a', c'), (a'', c''), (b1, b2)), hi, h0, h1, h2, h3, h4, h5, h6⟩
    obtain ⟨p, hp⟩ := Go.Deep.choose_lt key
    refine ⟨fun i => (p i).1.1, fun i => (p i).1.2, fun i => (p i).2.1.1, fun i => (p i).2.1.2, fun i => (p i).2.2.1, fun i => (p i).2.2.2, fun i hi x hxi => List.mem_cons_of_mem _ (List.mem_flatMap.2 ⟨i, List.mem_range.2 hi, ?_⟩), fun i hi => ?_⟩
    · obtain ⟨_, h0, _⟩ := hp i hi
      rw [h0]; exact hxi
    · obtain ⟨i1, c0, _⟩ := hx i hi
      obtain ⟨_, _, h1, h2, h3, h4, h5, h6⟩ := hp i hi
      exact ⟨b, off, ha, hb, i1, c0, h1, h2, h3, h4, h5, h6⟩

theorem name_areas {w : World} {a : Option Addr} {l : List AreaD} {bs : List Nat} (h : Areas w a l bs) :
    ∃ (A : Nat → Option Addr) (C : Nat → Nat) (A' : Nat → Option Addr) (C' : Nat → Nat) (f1 f2 : Nat → List Nat), (∀ i, i < l.length → ∀ x ∈ f1 i ++ f2 i, x ∈ bs) ∧ ∀ i (hi : i < l.length), ∃ b off, a = some ⟨b, off, none⟩ ∧ b < w.heap.size ∧ In64 l[i].id ∧
      w.cell? ⟨b, off + i * 3, none⟩ = some (.int .i64 l[i].id) ∧ l[i].parts.length ≤ maxLen ∧ l[i].tags.length ≤ maxLen ∧ w.cell? ⟨b, off + i * 3 + 1, none⟩ = some (.slice (A i) l[i].parts.length (C i)) ∧ Parts w (A i) l[i].parts (f1 i) ∧
      w.cell? ⟨b, off + i * 3 + 2, none⟩ = some (.slice (A' i) l[i].tags.length (C' i)) ∧ Tags w (A' i) l[i].tags (f2 i) := by
  rcases h with ⟨rfl, _⟩ | ⟨b, off, f, ha, hb, rfl, hx⟩
  · exact ⟨fun _ => none, fun _ => 0, fun _ => none, fun _ => 0, fun _ => [], fun _ => [], fun i hi => absurd hi (Nat.not_lt_zero _), fun i hi => absurd hi (Nat.not_lt_zero _)⟩
  · have key : ∀ i, i < l.length → ∃ p : (Option Addr × Nat) × (Option Addr × Nat) × (List Nat × List Nat), ∃ hi : i < l.length, f i = p.2.2.1 ++ p.2.2.2 ∧ l[i].parts.length ≤ maxLen ∧ l[i].tags.length ≤ maxLen ∧ w.cell? ⟨b, off + i * 3 + 1, none⟩ = some (.slice p.1.1 l[i].parts.length p.1.2) ∧ Parts w p.1.1 l[i].parts p.2.2.1 ∧
        w.cell? ⟨b, off + i * 3 + 2, none⟩ = some (.slice p.2.1.1 l[i].tags.length p.2.1.2) ∧ Tags w p.2.1.1 l[i].tags p.2.2.2 := fun i hi => by
      obtain ⟨_, _, a', c', a'', c'', b1, b2, h0, h1, h2, h3, h4, h5, h6⟩ := hx i hi
      exact ⟨((a', c'), (a'', c''), (b1, b2)), hi, h0, h1, h2, h3, h4, h5, h6⟩
    obtain ⟨p, hp⟩ := Go.Deep.choose_lt key
    refine ⟨fun i => (p i).1.1, fun i => (p i).1.2, fun i => (p i).2.1.1, fun i => (p i).2.1.2, fun i => (p i).2.2.1, fun i => (p i).2.2.2, fun i hi x hxi => List.mem_cons_of_mem _ (List.mem_flatMap.2 ⟨i, List.mem_range.2 hi, ?_⟩), fun i hi => ?_⟩
    · obtain ⟨_, h0, _⟩ := hp i hi
      rw [h0]; exact hxi
    · obtain ⟨i1, c0, _⟩ := hx i hi
      obtain ⟨_, _, h1, h2, h3, h4, h5, h6⟩ := hp i hi
      exact ⟨b, off, ha, hb, i1, c0, h1, h2, h3, h4, h5, h6⟩

end Go.Proofs.YtldfcnlhjjiihaaGreat
