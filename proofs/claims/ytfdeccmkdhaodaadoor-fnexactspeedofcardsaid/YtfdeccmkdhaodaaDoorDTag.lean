/-
  Contracts of the laws' own functions on Tag data: counted, copied, held against each other.
-/
import Derived.Test.YtfdeccmkdhaodaaDoorMem
import Derived.Deep.LoopGhost
import Derived.OwnWalk
import Derived.Deep.RegionHeld3
namespace Go.Proofs.YtfdeccmkdhaodaaDoor
open Go.RowKit

theorem toTag_any (x0 : ByteArray) (x1 : ByteArray) (w : World) :
    Calls Tryd.prog 12 #[.agg #[.string x0, .string x1]] w fun e w' => e = .returned (.agg #[.string x0, .string x1]) ∧ Bel w w' := by
  go_enter Tryd.func12, Tryd.ntmps12
  go_wp2
  exact bodyPost_ret (v := .agg #[.string x0, .string x1]) (by simp [results, Tryd.results12, go_sem]) rfl ⟨rfl, bel_alloc (bel_alloc (bel_alloc (Bel.refl _) _) _) _⟩

theorem eqTag_same (x0 : ByteArray) (x1 : ByteArray) (w : World) :
    Calls Tryd.prog 17 #[.agg #[.string x0, .string x1], .agg #[.string x0, .string x1]] w fun e w' => e = .returned (.bool true) ∧ Bel w w' := by
  go_enter Tryd.func17, Tryd.ntmps17
  go_wp2
  go_ret
  exact ⟨rfl, bel_alloc (bel_alloc (Bel.refl _) _) _⟩

theorem szTag_any (x0 x1 : ByteArray) (left : Int) (w : World) (hk : x0.size ≤ maxLen) (hv : x1.size ≤ maxLen) (h0 : 0 ≤ left) (h1 : left ≤ 1048576) :
    Calls Tryd.prog 9 #[.agg #[.string x0, .string x1], .int .i64 left] w fun e w' => e = .returned (.int .i64 (szR left (tagSz ⟨x0, x1⟩))) ∧ Bel w w' := by
  have hs : tagSz ⟨x0, x1⟩ = x0.size + x1.size := rfl
  rw [hs]; clear hs
  unfold maxLen at hk hv
  by_cases a1 : (x0.size : Int) ≤ left
  · by_cases a2 : ((x0.size + x1.size : Nat) : Int) ≤ left
    · rw [szR_pos a2]
      go_enter Tryd.func9, Tryd.ntmps9
      go_wp2
      go_ret
      exact ⟨ret_num (by omega), bel_alloc (Bel.refl _) _⟩
    · rw [szR_neg a2]
      go_enter Tryd.func9, Tryd.ntmps9
      go_wp2
      go_ret
      exact ⟨rfl, bel_alloc (Bel.refl _) _⟩
  · rw [szR_neg (by omega)]
    go_enter Tryd.func9, Tryd.ntmps9
    go_wp2
    go_ret
    exact ⟨rfl, bel_alloc (Bel.refl _) _⟩

set_option maxHeartbeats 1000000 in
theorem szTagS_any (a : Option Addr) (n c : Nat) (l : List TagD) (bs : List Nat) (left : Int) (w : World) (hT : Tags w a l bs) (hn : l.length = n) (hm : n ≤ 9223372036854775807) (h0 : 0 ≤ left) (h1 : left ≤ 1048576) :
    Calls Tryd.prog 4 #[.slice a n c, .int .i64 left] w fun e w' => e = .returned (.int .i64 (szR left (tagsSz l))) ∧ Bel w w' := by
  have Hn : Hid (l.length = n) := hn
  have HS : Hid (tagsSz l = n + sumTo tagSz l n) := (by unfold tagsSz; rw [hn] : tagsSz l = n + sumTo tagSz l n)
  clear hn
  by_cases hf : (n : Int) ≤ left
  · go_enter Tryd.func4, Tryd.ntmps4
    go_wp2
    go_loopw [1, 5] (fun t i wr => ∃ (k : Nat) (cur : Int), k ≤ n ∧ i = .int .i64 k ∧ t = .int .i64 cur ∧ 0 ≤ cur ∧ cur ≤ 1048576 ∧ Hid (cur = left - n - sumTo tagSz l k) ∧ Bel w wr) (fun _ i _ => n - (intOf i).toNat)
    case atStart => exact ⟨0, left - n, Nat.zero_le _, rfl, rfl, by omega, by omega, (by rw [sumTo_zero]; omega : left - (n : Int) = left - n - ((sumTo tagSz l 0 : Nat) : Int)), Bel.refl _⟩
    case round =>
      obtain ⟨k, cur, hk, rfl, rfl, p0, p1, HC, hbel⟩ := hrel
      by_cases hlt : k < n
      · have hkl : k < l.length := by rw [Hn.out]; exact hlt
        obtain ⟨b, off, f, rfl, hb, hx⟩ := (hT.bel tagE hbel).out hkl
        obtain ⟨_, s0, s1, c0, c1⟩ := hx k hkl
        have HU : Hid (sumTo tagSz l (k + 1) = sumTo tagSz l k + tagSz l[k]) := sumTo_succ _ hkl
        have HL : Hid (sumTo tagSz l (k + 1) ≤ sumTo tagSz l n) := sumTo_le _ (by omega) Hn.out.symm
        obtain ⟨r, HR⟩ : ∃ r, Hid (szR cur (tagSz l[k]) = r) := ⟨_, (rfl : szR cur (tagSz l[k]) = _)⟩
        have hr1 : r ≤ 1048576 := by rw [← HR.out]; exact (szR_bd p1).1
        clear hx hT
        by_cases p : 0 ≤ r
        · have HN : Hid (r = left - n - sumTo tagSz l (k + 1)) := by
            have h2 := HR.out; have h3 := HC.out; have h4 := HU.out
            have h5 : ((tagSz l[k] : Nat) : Int) ≤ cur := by
              by_cases h6 : ((tagSz l[k] : Nat) : Int) ≤ cur
              · exact h6
              · rw [szR_neg h6] at h2; omega
            rw [szR_pos h5] at h2
            show r = _
            omega
          go_wp2_with fail
          refine (szTag_any l[k].k l[k].v cur _ s0 s1 p0 p1).mono ?_
          rintro e w1 ⟨rfl, hb1⟩
          rw [HR.out]
          have hB1 := bel_step hbel hb1
          clear hb1 hbel
          go_wp2
          go_roundw
          case rel => exact ⟨k + 1, r, by omega, by go_num, rfl, p, hr1, HN, hB1⟩
          case measure => simp [intOf]; omega
        · have HN : Hid (szR left (tagsSz l) = -1) := by
            have h2 := HR.out; have h3 := HC.out; have h4 := HU.out; have h6 := HL.out
            rw [HS.out]
            refine szR_neg fun h7 => p ?_
            have h8 : ((tagSz l[k] : Nat) : Int) ≤ cur := by omega
            rw [← h2, szR_pos h8]
            omega
          go_wp2_with fail
          refine (szTag_any l[k].k l[k].v cur _ s0 s1 p0 p1).mono ?_
          rintro e w1 ⟨rfl, hb1⟩
          rw [HR.out]
          have hB1 := bel_step hbel hb1
          clear hb1 hbel
          go_wp2
          go_ret
          exact ⟨ret_num HN.out.symm, hB1⟩
      · have e : k = n := by omega
        subst e
        have HN : Hid (szR left (tagsSz l) = cur) := by
          have h3 := HC.out
          have h5 : ((k + sumTo tagSz l k : Nat) : Int) ≤ left := by omega
          rw [HS.out, szR_pos h5]
          show _ = _
          omega
        go_wp2
        go_ret
        exact ⟨ret_num HN.out.symm, hbel⟩
  · have HN : Hid (szR left (tagsSz l) = -1) := by rw [HS.out]; exact szR_neg (by omega)
    go_enter Tryd.func4, Tryd.ntmps4
    go_wp2
    go_ret
    exact ⟨ret_num HN.out.symm, Bel.refl _⟩

theorem infoTag : (Tryd.prog.info? 34).map (fun i => (i.zero, i.size, i.bytes)) = some (some (.agg #[.string ⟨#[]⟩, .string ⟨#[]⟩]), 2, 32) := by kernel_rfl
set_option maxHeartbeats 1000000 in
theorem toTagS_any (a : Option Addr) (n c : Nat) (l : List TagD) (bs : List Nat) (w : World) (hT : Tags w a l bs) (hn : l.length = n) (hm : n ≤ 1048576) :
    Calls Tryd.prog 6 #[.slice a n c] w fun e w' => ∃ B cs, e = .returned (.slice (some ⟨B, 0, none⟩) n n) ∧ Tags w' (some ⟨B, 0, none⟩) l cs ∧ Fresh w w' cs ∧ Bel w w' := by
  have Hn : Hid (l.length = n) := hn
  clear hn
  have hmk : ∀ w : World, (Instr.makeSlice 25 (.int .i64 n) (.int .i64 n)).run Tryd.prog w = .ok (.slice (some ⟨w.heap.size, 0, none⟩) n n) (w.alloc (.cells (madeCells #[.string ⟨#[]⟩, .string ⟨#[]⟩] (n * 2)) 34)) := fun w => by
    obtain ⟨i0, hi, hz0, hz1, hz2⟩ := info_parts infoTag
    have := run_make (P := Tryd.prog) w 25 34 i0 (.agg #[.string ⟨#[]⟩, .string ⟨#[]⟩]) Tryd.underlying25 hi hz0 .i64 .i64 n n (by omega) (by omega) (by rw [hz2]; omega) (by omega)
    rw [hz1] at this
    exact this
  go_enter Tryd.func6, Tryd.ntmps6
  go_wp2
  go_loopw [4] (fun i wr => ∃ k : Nat, k ≤ n ∧ i = .int .i64 k ∧ (∃ f, Fill 2 TagE wr w.heap.size n k l f) ∧ Bel w wr) (fun i _ => n - (intOf i).toNat)
  case atStart => exact ⟨0, Nat.zero_le _, rfl, ⟨_, Fill.start _ _ _ _ _ _⟩, bel_alloc (Bel.refl _) _⟩
  case round =>
    obtain ⟨k, hk, rfl, ⟨g, hrow⟩, hbel⟩ := hrel
    by_cases hlt : k < n
    · have hkl : k < l.length := by rw [Hn.out]; exact hlt
      obtain ⟨b, off, f, rfl, hb, hx⟩ := (hT.bel tagE hbel).out hkl
      obtain ⟨_, s0, s1, c0, c1⟩ := hx k hkl
      clear hx hT
      go_wp2_with fail
      refine (toTag_any l[k].k l[k].v _).mono ?_
      rintro e w1 ⟨rfl, hb1⟩
      have hr1 := hrow.bel tagE hb1
      have hB1 : Bel w w1 := bel_step hbel hb1
      obtain ⟨v0, d50⟩ := hr1.there (k * 2) (by omega)
      have f0 := hr1.free (k * 2)
      obtain ⟨v1, d51⟩ := hr1.there (k * 2 + 1) (by omega)
      have f1 := hr1.free (k * 2 + 1)
      clear c0 c1 hb hbel
      go_wp2
      go_roundw
      case rel =>
        have S := setRow_in w.heap.size [.string l[k].k, .string l[k].v] w1 (k * 2) (fun j hj => hr1.there _ (by simp at hj; omega))
        exact ⟨k + 1, by omega, by go_num, ⟨_, hrow.put tagE hb1 hlt Hn.out (Fresh.nil _ _) [.string l[k].k, .string l[k].v] rfl ⟨rfl, s0, s1, S 0 (by simp), S 1 (by simp)⟩⟩, setRow_bel hB1 (Nat.le_refl _) [.string l[k].k, .string l[k].v] (k * 2)⟩
      case measure => simp [intOf]; omega
    · have e : k = n := by omega
      subst e
      go_wp2
      go_ret
      exact ⟨_, _, rfl, hrow.sl Hn.out, hrow.fresh (Nat.le_refl _), hbel⟩

set_option maxHeartbeats 1000000 in
theorem eqTagS_same (a a' : Option Addr) (n c c' : Nat) (l : List TagD) (bs bs' : List Nat) (w : World) (hP : Tags w a l bs) (hP' : Tags w a' l bs') (hn : l.length = n) (hm : n ≤ 1048576) :
    Calls Tryd.prog 8 #[.slice a n c, .slice a' n c'] w fun e w' => e = .returned (.bool true) ∧ Bel w w' := by
  have Hn : Hid (l.length = n) := hn
  clear hn
  go_enter Tryd.func8, Tryd.ntmps8
  go_wp2
  go_loopw [5] (fun i wr => ∃ k : Nat, k ≤ n ∧ i = .int .i64 k ∧ Bel w wr) (fun i _ => n - (intOf i).toNat)
  case atStart => exact ⟨0, Nat.zero_le _, rfl, Bel.refl _⟩
  case round =>
    obtain ⟨k, hk, rfl, hbel⟩ := hrel
    by_cases hlt : k < n
    · have hkl : k < l.length := by rw [Hn.out]; exact hlt
      obtain ⟨b, off, f, rfl, h2, h3⟩ := (hP.bel tagE hbel).out hkl
      obtain ⟨b', off', f', rfl, h2', h3'⟩ := (hP'.bel tagE hbel).out hkl
      obtain ⟨_, s0, s1, c0, c1⟩ := h3 k hkl
      obtain ⟨_, s0', s1', c0', c1'⟩ := h3' k hkl
      have hR : ∀ w', Bel wr w' → w'.cell? ⟨b, off + k * 2, none⟩ = some (.string l[k].k) ∧ w'.cell? ⟨b, off + k * 2 + 1, none⟩ = some (.string l[k].v) ∧ w'.cell? ⟨b', off' + k * 2, none⟩ = some (.string l[k].k) ∧ w'.cell? ⟨b', off' + k * 2 + 1, none⟩ = some (.string l[k].v) :=
        fun w' h => ⟨bel_cellM h h2 c0, bel_cellM h h2 c1, bel_cellM h h2' c0', bel_cellM h h2' c1'⟩
      have hlt' : (k : Int) < (n : Int) := by omega
      have g0 : Bel wr wr := Bel.refl _
      clear h3 h3' c0 c0' c1 c1' h2 h2' hP hP'
      go_wp2
      go_region_held3 (fun w' => Bel wr w') (repeat (first | exact g0 | refine Bel.drew ?_ | assumption | refine bel_then (by assumption) ?_))
        (first
          | (go_at_call 17; refine (eqTag_same l[k].k l[k].v _).mono ?_; rintro e w' ⟨rfl, hbk⟩))
      have hH : Bel wr w' := by assumption
      go_wp2
      go_roundw
      case rel => exact ⟨k + 1, by omega, by go_num, bel_step hbel hH⟩
      case measure => simp [intOf]; omega
    · have e : k = n := by omega
      subst e
      go_wp2
      go_ret
      exact ⟨rfl, hbel⟩

end Go.Proofs.YtfdeccmkdhaodaaDoor
