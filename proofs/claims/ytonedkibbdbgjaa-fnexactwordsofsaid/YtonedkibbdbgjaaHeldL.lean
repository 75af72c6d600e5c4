/-
  Stops' names, calls, walks, trips and timetables, their marks held; a timetable marked: contracts.
-/
import Derived.Test.YtonedkibbdbgjaaMarkL
import Derived.Test.YtonedkibbdbgjaaLinL
import Derived.Deep.RegionHeld3
namespace Go.Proofs.Ytonedkibbdbgjaa
open Go.RowKit Go.Maps

set_option maxRecDepth 100000 in
set_option maxHeartbeats 2000000 in
theorem heldStringS_any (a : Option Addr) (n c : Nat) (l : List ByteArray) (bs : List Nat) (k : Nat) (w : World) (hT : StrL w a (mkStrs k l) bs) (hn : l.length = n) (hm : n ≤ 1048576) (h0k : 0 < k) (hk : k ≤ 1125899906842624) :
    Calls Try.prog 12 #[.slice a n c, .int .i64 k] w fun e w' => e = .returned (.int .i64 ((k + n : Nat) : Int)) ∧ Bel w w' := by
  have Hn : Hid (l.length = n) := hn
  clear hn
  go_enter Try.func12, Try.ntmps12
  go_wp2
  go_loopw [1, 5] (fun t i wr => ∃ j : Nat, j ≤ n ∧ i = .int .i64 j ∧ t = .int .i64 ((k + j : Nat) : Int) ∧ Bel w wr) (fun _ i _ => n - (intOf i).toNat)
  case atStart => exact ⟨0, Nat.zero_le _, rfl, by simp, Bel.refl _⟩
  case round =>
    obtain ⟨j, hj, rfl, rfl, hbel⟩ := hrel
    by_cases hlt : j < n
    · have hjl : j < (mkStrs k l).length := by rw [mkStrs_len, Hn.out]; exact hlt
      obtain ⟨b, off, f, rfl, hb, hx⟩ := (hT.bel strE hbel).out hjl
      have hj0 := hx j hjl
      rw [show (mkStrs k l)[j] = mT (k + j) by simp [mkStrs]] at hj0
      obtain ⟨_, _, e0⟩ := hj0
      rw [Nat.mul_one] at e0
      obtain ⟨kk, hkk⟩ : ∃ kk, k + j = kk := ⟨_, rfl⟩
      have HK : Hid (k + (j + 1) = kk + 1) := (by omega : k + (j + 1) = kk + 1)
      rw [hkk] at e0 ⊢
      have hk1 : 0 < kk := by omega
      have hk2 : kk ≤ 1125902004000000 := by omega
      clear hkk
      obtain ⟨s, Hs⟩ : ∃ s, Hid (mT kk = s) := ⟨_, (rfl : mT kk = _)⟩
      have c0 : wr.cell? ⟨b, off + j, none⟩ = some (.string s) := by rw [← Hs.out]; exact e0
      have hlt' : (j : Int) < (n : Int) := by omega
      have hR : ∀ w', Bel wr w' → w'.cell? ⟨b, off + j, none⟩ = some (.string s) := fun w' h => bel_cellM h hb c0
      have g0 : Bel wr wr := Bel.refl _
      clear hx hT c0 e0 hb
      go_wp2
      go_region_held3 (fun w' => Bel wr w') (with_reducible (repeat (first | assumption | exact g0 | refine Bel.drew ?_ | refine bel_then (by assumption) ?_)))
        (first
          | (go_at_call 19; refine (markText_any kk _ hk1 (by omega)).mono ?_; rintro e w1 ⟨rfl, hb1⟩; rw [Hs.out]))
      have h1 : Bel wr w1 := by assumption
      clear hb1
      go_wp2
      go_roundw
      case rel => exact ⟨j + 1, by omega, by go_num, by rw [HK.out]; go_num, bel_step hbel h1⟩
      case measure => simp [intOf]; omega
    · have e : n = j := by omega
      subst e
      clear hT
      go_wp2
      go_ret
      exact ⟨rfl, hbel⟩

/-- A timetable as its marks leave it. -/
def mkLinT (k : Nat) (g : LinesD) : Nat := k + g.stops.length
def mkLinW (k : Nat) (g : LinesD) : Nat := stTrp (mkLinT k g) g.trips g.trips.length
def mkLinE (k : Nat) (g : LinesD) : Nat := mkLinW k g + 3 * g.walks.length
def mkLin (k : Nat) (g : LinesD) : LinesD := ⟨mkStrs k g.stops, mkTrps (mkLinT k g) g.trips, mkWlks (mkLinW k g) g.walks⟩

end Go.Proofs.Ytonedkibbdbgjaa
