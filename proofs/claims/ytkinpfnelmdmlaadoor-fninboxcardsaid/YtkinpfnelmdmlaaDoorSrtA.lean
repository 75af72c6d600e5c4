/-
  Contracts of the library's exchange of two runs and of two runs beside each other, at numbers: for every row of the call's own.
-/
import Derived.Test.YtkinpfnelmdmlaaDoorSortM
import Derived.Test.YtkinpfnelmdmlaaDoorMarkT
import Derived.Deep.OwnRows
import Derived.BigRegion
import Derived.BigQuiet
import Derived.Deep.RegionHeld3
namespace Go.Proofs.YtkinpfnelmdmlaaDoor
open Go.RowKit Go.Maps

/-- A row of numbers, block B, that is being sorted; all else is as in W. -/
structure Sw (W : World) (B n : Nat) (d : Nat → Nat) (w : World) : Prop where
  row : w.rowIs B 2 n (fun i => .int .i64 ((d i : Nat) : Int))
  onl : Onl [B] W w
theorem Sw.bel {W w w' : World} {B n : Nat} {d : Nat → Nat} (h : Sw W B n d w) (hb : Bel w w') : Sw W B n d w' :=
  ⟨h.row.of_block (hb.out.block B h.row.lt), h.onl.bel hb⟩
theorem Sw.drew {W w : World} {B n : Nat} {d : Nat → Nat} (h : Sw W B n d w) : Sw W B n d w.drew := h.bel (Bel.drew (Bel.refl _))
theorem Sw.congr {W w : World} {B n : Nat} {d e : Nat → Nat} (h : Sw W B n d w) (he : ∀ i, i < n → d i = e i) : Sw W B n e w :=
  ⟨h.row.congr fun i hi => by rw [he i hi], h.onl⟩
theorem Sw.swp {W w : World} {B n : Nat} {d : Nat → Nat} (h : Sw W B n d w) {x y : Nat} (hxy : x ≠ y) :
    Sw W B n (swp d x y) ((w.setCell ⟨B, x, none⟩ (.int .i64 ((d y : Nat) : Int))).setCell ⟨B, y, none⟩ (.int .i64 ((d x : Nat) : Int))) := by
  refine ⟨((h.row.set x (.int .i64 ((d y : Nat) : Int))).set y (.int .i64 ((d x : Nat) : Int))).congr fun i _ => ?_, (h.onl.set (by simp) _ _).set (by simp) _ _⟩
  show (if i = y then _ else if i = x then _ else _) = _
  unfold Go.Proofs.YtkinpfnelmdmlaaDoor.swp
  by_cases e1 : i = y
  · rw [if_pos e1, if_neg (by omega), if_pos e1]
  · rw [if_neg e1, if_neg e1]
    by_cases e2 : i = x
    · rw [if_pos e2, if_pos e2]
    · rw [if_neg e2, if_neg e2]

set_option maxRecDepth 100000 in
set_option maxHeartbeats 2000000 in
theorem swapRange_any (W : World) (B n c : Nat) (d : Nat → Nat) (f : Value) (a b m : Nat) (w : World) (hS : Sw W B n d w) (hab : a + m ≤ b) (hbn : b + m ≤ n) (hn : n ≤ 1048576) :
    Calls Tryd.prog 48 #[.slice (some ⟨B, 0, none⟩) n c, .int .i64 a, .int .i64 b, .int .i64 m, f] w fun e w' => e = .returned (.tuple #[]) ∧ Sw W B n (swr d a b m) w' := by
  go_enter Tryd.func48, Tryd.ntmps48
  go_wp2
  go_loopw [10] (fun i wr => ∃ k : Nat, k ≤ m ∧ i = .int .i64 k ∧ Sw W B n (swr d a b k) wr) (fun i _ => m - (intOf i).toNat)
  case atStart => exact ⟨0, Nat.zero_le _, rfl, by rw [swr_zero]; exact hS⟩
  case round =>
    clear hS
    obtain ⟨k, hk, rfl, hr⟩ := hrel
    by_cases hlt : k < m
    · have hlt' : (k : Int) < (m : Int) := by omega
      have HS : Hid (swp (swr d a b k) (a + k) (b + k) = swr d a b (k + 1)) := swr_succ d a b k (by omega)
      obtain ⟨x, hx⟩ : ∃ x, a + k = x := ⟨_, rfl⟩
      obtain ⟨y, hy⟩ : ∃ y, b + k = y := ⟨_, rfl⟩
      have hwx : IntKind.i64.wrap ((a : Int) + (k : Int)) = (x : Int) := by rw [IntKind.wrap_i64]; omega
      have hwy : IntKind.i64.wrap ((b : Int) + (k : Int)) = (y : Int) := by rw [IntKind.wrap_i64]; omega
      rw [hx, hy] at HS
      have hxn : x < n := by omega
      have hyn : y < n := by omega
      have hxy : x ≠ y := by omega
      have HR : Hid (Sw W B n (swr d a b k) wr) := hr
      have cx := hr.row.cell hxn
      have cy := hr.row.cell hyn
      have fx := hr.row.frozen x
      have fy := hr.row.frozen y
      obtain ⟨u, Hu⟩ : ∃ u, Hid (swr d a b k x = u) := ⟨_, (rfl : swr d a b k x = _)⟩
      obtain ⟨v, Hv⟩ : ∃ u, Hid (swr d a b k y = u) := ⟨_, (rfl : swr d a b k y = _)⟩
      simp only [Hu.out, Hv.out] at cx cy
      have hB := hr.row.lt
      have hxn' : (x : Int) < (n : Int) := by omega
      have hyn' : (y : Int) < (n : Int) := by omega
      clear hx hy hr
      go_wp2
      go_big_region
      obtain ⟨V, HV⟩ : ∃ V : World, Hid (V = ((wr.setCell ⟨B, x, none⟩ (.int .i64 (v : Int))).setCell ⟨B, y, none⟩ (.int .i64 (u : Int))).drew) := ⟨_, (rfl : ((wr.setCell ⟨B, x, none⟩ (.int .i64 (v : Int))).setCell ⟨B, y, none⟩ (.int .i64 (u : Int))).drew = _)⟩
      have HN : Hid (Sw W B n (swr d a b (k + 1)) V) := by
        have := (HR.out.swp hxy).drew
        rw [HS.out, Hu.out, Hv.out] at this
        rw [HV.out]; exact this
      rw [← HV.out]
      clear cx cy fx fy hB
      go_wp2
      go_roundw
      case rel => exact ⟨k + 1, by omega, by go_num, HN.out⟩
      case measure => simp [intOf]; omega
    · have e : k = m := by omega
      subst e
      go_wp2
      go_end0
      exact ⟨rfl, hr⟩

set_option maxRecDepth 100000 in
set_option maxHeartbeats 2000000 in
theorem rotate_any (W : World) (B n c : Nat) (d : Nat → Nat) (f : Value) (a m b : Nat) (w : World) (hS : Sw W B n d w) (ham : a < m) (hmb : m < b) (hbn : b ≤ n) (hn : n ≤ 1048576) :
    Calls Tryd.prog 47 #[.slice (some ⟨B, 0, none⟩) n c, .int .i64 a, .int .i64 m, .int .i64 b, f] w fun e w' => e = .returned (.tuple #[]) ∧ Sw W B n (rot d a m b) w' := by
  have hi0 : (m : Int) - (a : Int) = ((m - a : Nat) : Int) := by omega
  have hj0 : (b : Int) - (m : Int) = ((b - m : Nat) : Int) := by omega
  go_enter Tryd.func47, Tryd.ntmps47
  go_wp2
  go_loopw [10, 11] (fun p q wr => ∃ (i j : Nat) (e : Nat → Nat), p = .int .i64 i ∧ q = .int .i64 j ∧ 0 < i ∧ 0 < j ∧ a + i ≤ m ∧ m + j ≤ b ∧ rot e (m - i) m (m + j) = rot d a m b ∧ Sw W B n e wr) (fun p q _ => (intOf p).toNat + (intOf q).toNat)
  case atStart => exact ⟨m - a, b - m, d, by first | rfl | go_num, by first | rfl | go_num, by omega, by omega, by omega, by omega, by rw [show m - (m - a) = a by omega, show m + (b - m) = b by omega], hS⟩
  case round =>
    clear hS hi0 hj0
    obtain ⟨i, j, e, rfl, rfl, hi, hj, him, hjb, he, hr⟩ := hrel
    have HE : Hid (rot e (m - i) m (m + j) = rot d a m b) := he
    clear he
    by_cases hij : i = j
    · subst hij
      have HQ : Hid (swr e (m - i) m i = rot e (m - i) m (m + i)) := rot_same e m i (by omega)
      obtain ⟨s, hs⟩ : ∃ s, m - i = s := ⟨_, rfl⟩
      have hsi : (m : Int) - (i : Int) = (s : Int) := by omega
      rw [hs] at HQ HE
      have h1 : s + i ≤ m := by omega
      go_wp2_with fail
      refine (swapRange_any W B n c e f s m i _ hr h1 (by omega) hn).mono ?_
      rintro _ w1 ⟨rfl, h1⟩
      rw [HQ.out, HE.out] at h1
      go_wp2
      go_end0
      exact ⟨rfl, h1⟩
    · by_cases hgt : j < i
      · have hij' : ¬ (i : Int) = (j : Int) := by omega
        have hgt' : (j : Int) < (i : Int) := by omega
        have HQ : Hid (rot (swr e (m - i) m j) (m - (i - j)) m (m + j) = rot e (m - i) m (m + j)) := rot_more e m i j (by omega) hgt hj
        obtain ⟨s, hs⟩ : ∃ s, m - i = s := ⟨_, rfl⟩
        have hsi : (m : Int) - (i : Int) = (s : Int) := by omega
        have hdi : (i : Int) - (j : Int) = ((i - j : Nat) : Int) := by omega
        rw [hs] at HQ HE
        go_wp2_with fail
        refine (swapRange_any W B n c e f s m j _ hr (by omega) (by omega) hn).mono ?_
        rintro _ w1 ⟨rfl, h1⟩
        go_wp2
        go_roundw
        case rel => exact ⟨i - j, j, _, by first | rfl | go_num, rfl, by omega, hj, by omega, hjb, by rw [HQ.out]; exact HE.out, h1⟩
        case measure => simp [intOf]; omega
      · have hij' : ¬ (i : Int) = (j : Int) := by omega
        have hgt' : ¬ (j : Int) < (i : Int) := by omega
        have HQ : Hid (rot (swr e (m - i) (m + j - i) i) (m - i) m (m + (j - i)) = rot e (m - i) m (m + j)) := rot_less e m i j (by omega) (by omega) hi
        obtain ⟨s, hs⟩ : ∃ s, m - i = s := ⟨_, rfl⟩
        have hsi : (m : Int) - (i : Int) = (s : Int) := by omega
        obtain ⟨t, ht⟩ : ∃ t, m + j - i = t := ⟨_, rfl⟩
        have hti : (m : Int) + (j : Int) - (i : Int) = (t : Int) := by omega
        have hdi : (j : Int) - (i : Int) = ((j - i : Nat) : Int) := by omega
        rw [hs] at HQ HE
        rw [ht] at HQ
        go_wp2_with fail
        refine (swapRange_any W B n c e f s t i _ hr (by omega) (by omega) hn).mono ?_
        rintro _ w1 ⟨rfl, h1⟩
        go_wp2
        go_roundw
        case rel => exact ⟨i, j - i, _, rfl, by first | rfl | go_num, hi, by omega, him, by omega, by rw [hs, HQ.out]; exact HE.out, h1⟩
        case measure => simp [intOf]; omega
end Go.Proofs.YtkinpfnelmdmlaaDoor
