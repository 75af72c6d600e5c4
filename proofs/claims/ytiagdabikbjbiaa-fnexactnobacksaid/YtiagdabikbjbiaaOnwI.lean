/-
  The Roads of a way among some, in the program: contract.
-/
import Derived.Test.YtiagdabikbjbiaaXD
import Derived.Test.YtiagdabikbjbiaaXB
namespace Go.Proofs.Ytiagdabikbjbiaa
open Go.RowKit Go.Maps

set_option maxRecDepth 100000 in
set_option maxHeartbeats 2000000 in
theorem onWay_any (lo : Nat) (v0 : Value) (v3 v4 v5 : Value) (a0 : Option Addr) (k0 c0 : Nat) (a1 : Option Addr) (n1 c1 : Nat) (a2 : Option Addr) (k2 c2 : Nat) (rs : List RoadD) (b1 : List Nat) (row : List Nat) (y : Int) (w : World) (hrow0 : w.ownsRow lo 2 1 v0 row.length (intsN row)) (t1 : RoadL w a1 rs b1) (e1 : rs.length = n1) (hm : n1 ≤ 8000) (hrm : row.length ≤ n1) (hri : ∀ i ∈ row, i < n1) :
    Calls Try.prog 56 #[.agg #[.slice a0 k0 c0, .slice a1 n1 c1, .slice a2 k2 c2, v3, v4, v5], v0, .int .i64 y] w fun e w' => ∃ v', e = .returned v' ∧ OwnI w.heap.size w' v' (wyL row rs y) ∧ Bel w w' := by
  obtain ⟨i0, hi0, hz0, hz1, hz2⟩ := info_parts infoI
  have H1 : Hid (rs.length = n1) := e1
  obtain ⟨m, Hm⟩ : ∃ m, Hid (row.length = m) := ⟨_, (rfl : row.length = _)⟩
  have hm' : m ≤ 8000 := by rw [← Hm.out]; omega
  rw [Hm.out] at hrow0
  obtain ⟨va, vc, rfl⟩ := own_shape hrow0
  have hrow := hrow0
  clear hrow0
  obtain ⟨W, HW⟩ : ∃ W, Hid (W = w.alloc (.cells #[.slice a0 k0 c0, .slice a1 n1 c1, .slice a2 k2 c2, v3, v4, v5] 59)) := ⟨_, (rfl : w.alloc (.cells #[.slice a0 k0 c0, .slice a1 n1 c1, .slice a2 k2 c2, v3, v4, v5] 59) = _)⟩
  have hBW : Bel w W := by rw [HW.out]; exact bel_alloc (Bel.refl _) _
  have XN1 : Blk W w.heap.size [.slice a0 k0 c0, .slice a1 n1 c1, .slice a2 k2 c2, v3, v4, v5] := by rw [HW.out]; exact Blk.new w [.slice a0 k0 c0, .slice a1 n1 c1, .slice a2 k2 c2, v3, v4, v5] _
  have hrow2 := hrow.kept (bel_none hBW) (Classical.em _)
  have t1W := t1.bel roadE hBW
  have O1 : OwnI W.heap.size W (.slice none 0 0) [] := World.ownsRow_nil _ _ _ _
  have hB1 := hBW
  clear hrow t1 e1
  go_enter Try.func56, Try.ntmps56
  go_wp2
  rw [← HW.out]
  go_wp2
  go_loopw [7, 9, 12] (fun o _ i wr => ∃ k : Nat, k ≤ m ∧ i = .int .i64 k ∧ OwnI W.heap.size wr o (wyL (row.take k) rs y) ∧ Bel W wr) (fun _ _ i _ => m - (intOf i).toNat)
  case atStart => exact ⟨0, Nat.zero_le _, rfl, O1, Bel.refl _⟩
  case round =>
    clear O1 HW
    obtain ⟨k, hk, rfl, hown, hBr⟩ := hrel
    obtain ⟨oa, oc, rfl⟩ := own_shape hown
    by_cases hlt : k < m
    · have hkl : k < row.length := by rw [Hm.out]; exact hlt
      obtain ⟨_, _, hvs⟩ := own_some hrow2 (by omega)
      obtain ⟨gb, rfl⟩ : ∃ gb, va = some ⟨gb, 0, none⟩ := by injection hvs with hva _ _; exact ⟨_, hva⟩
      clear hvs
      have hgb := ((hrow2.kept (bel_none hBr) (Classical.em _)).lt gb rfl).2
      have hck : wr.cell? ⟨gb, k, none⟩ = some (.int .i64 (row[k] : Int)) := by
        rw [(hrow2.kept (bel_none hBr) (Classical.em _)).cellAt k (by omega)]
        unfold intsN
        rw [List.getElem?_map, List.getElem?_eq_getElem hkl]; rfl
      obtain ⟨x, Hx⟩ : ∃ x, Hid (x = row[k]) := ⟨_, (rfl : row[k] = _)⟩
      have hxn : x < n1 := by rw [Hx.out]; exact hri _ (List.getElem_mem hkl)
      rw [← Hx.out] at hck
      have hxl : x < rs.length := by rw [H1.out]; exact hxn
      obtain ⟨b, off, f, rfl, hb, hx⟩ := (t1W.bel roadE hBr).out hxl
      obtain ⟨_, _, _, _, _, _, _, _, _, y2, _⟩ := hx x hxl
      obtain ⟨z, Hz⟩ : ∃ z, Hid (z = rs[x].way) := ⟨_, (rfl : rs[x].way = _)⟩
      rw [← Hz.out] at y2
      have k5 : wr.cell? ⟨w.heap.size, 1, none⟩ = some (.slice (some ⟨b, off, none⟩) n1 c1) := (XN1.bel hBr).cell 1 (by simp)
      have kl := (XN1.bel hBr).lt
      have hlt' : (k : Int) < (m : Int) := by omega
      have hxI : (x : Int) < (n1 : Int) := by omega
      have hln : (wyL (row.take k) rs y).length ≤ 8000 := Nat.le_trans (wyL_len _ _ _) (by rw [List.length_take]; omega)
      have hszr := hBr.out.size
      clear hrow2 hx t1W
      by_cases hw : z = y
      · have HE : Hid (wyL (row.take (k + 1)) rs y = wyL (row.take k) rs y ++ [(x : Int)]) := by
          have h1 : row[k] = x := Hx.out.symm
          have h2 := wyL_yes (rs := rs) (y := y) hkl (by rw [h1]; exact hxl) (by simp only [h1]; rw [← Hz.out]; exact hw)
          rw [h1] at h2
          exact h2
        have hw' : (z == y) = true := by rw [beq_iff_eq]; exact hw
        clear hw
        have hown3 := World.ownsRow.alloc hown (.cells #[.int .i64 (x : Int)] 2)
        have hBa := bel_alloc hBr (.cells #[.int .i64 (x : Int)] 2)
        have hsz2 := hBr.out.size
        clear hown
        go_wp2_with (first
          | (at_builtin; refine wpList_append_own _ rfl _ _ 48 rfl W.heap.size 2 i0 (.int .i64 0) 1 8 Try.underlying48 hi0 hz0 hz1 hz2 rfl (by decide) _ _ _ rfl hown3 ⟨wr.heap.size, 0, none⟩ 1 1 [.int .i64 (x : Int)] rfl rfl ?c1 ?c2 ?c3 ?c4 ?c5 ?_)
          | go_in)
        case c1 =>
          intro j u hj
          match j, hj with
          | 0, hj => simp at hj; subst hj; simp [Addr.add]
        case c2 =>
          intro u hu
          simp at hu
          rcases hu with rfl
          rfl
        case c3 => unfold maxLen; omega
        case c4 => omega
        case c5 => simp; omega
        intro v' w3 hown' hgrow _
        have HO3 : Hid (OwnI W.heap.size w3 v' (wyL (row.take (k + 1)) rs y)) := by rw [HE.out]; exact own_add hown'
        have hB3 : Bel W w3 := bel_grow hBa hgrow (fun j e => (hown3.lt j e).1)
        clear hown' hgrow hown3 hBa
        go_wp2
        go_roundw
        case rel => exact ⟨k + 1, by omega, by go_num, HO3.out, hB3⟩
        case measure => simp [intOf]; omega
      · have HE : Hid (wyL (row.take (k + 1)) rs y = wyL (row.take k) rs y) := by
          have h1 : row[k] = x := Hx.out.symm
          exact wyL_no (rs := rs) (y := y) hkl (by rw [h1]; exact hxl) (by simp only [h1]; rw [← Hz.out]; exact hw)
        have hw' : (z == y) = false := by rw [beq_eq_false_iff_ne]; exact hw
        clear hw
        go_wp2
        go_roundw
        case rel => exact ⟨k + 1, by omega, by go_num, by rw [HE.out]; exact hown, hBr⟩
        case measure => simp [intOf]; omega
    · have e : m = k := by omega
      have HO : Hid (OwnI w.heap.size wr (.slice oa (wyL (row.take k) rs y).length oc) (wyL row rs y)) := by
        have h := own_base hown hB1.out.size
        have e : row.take k = row := List.take_of_length_le (by rw [Hm.out]; omega)
        rw [e] at h ⊢
        exact h
      subst e
      clear hown
      go_wp2
      go_ret
      exact ⟨_, rfl, HO.out, bel_step hB1 hBr⟩
end Go.Proofs.Ytiagdabikbjbiaa
