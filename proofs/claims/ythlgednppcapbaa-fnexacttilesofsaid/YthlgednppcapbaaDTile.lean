/-
  Contracts of the laws' own functions on Tile data: counted, copied, held against each other.
-/
import Derived.Test.YthlgednppcapbaaMem
import Derived.Test.YthlgednppcapbaaTilD
import Derived.Deep.LoopGhost
import Derived.OwnWalk
import Derived.Deep.RegionHeld3
namespace Go.Proofs.Ythlgednppcapbaa
open Go.RowKit

theorem toTile_any (x0 : Int) (x1 : Int) (x2 : Int) (w : World) :
    Calls Try.prog 9 #[.agg #[.int .i64 x0, .int .i64 x1, .int .i64 x2]] w fun e w' => e = .returned (.agg #[.int .i64 x0, .int .i64 x1, .int .i64 x2]) ∧ Bel w w' := by
  go_enter Try.func9, Try.ntmps9
  go_wp2
  exact bodyPost_ret (v := .agg #[.int .i64 x0, .int .i64 x1, .int .i64 x2]) (by simp [results, Try.results9, go_sem]) rfl ⟨rfl, bel_alloc (bel_alloc (bel_alloc (Bel.refl _) _) _) _⟩

theorem eqTile_same (x0 : Int) (x1 : Int) (x2 : Int) (w : World) :
    Calls Try.prog 41 #[.agg #[.int .i64 x0, .int .i64 x1, .int .i64 x2], .agg #[.int .i64 x0, .int .i64 x1, .int .i64 x2]] w fun e w' => e = .returned (.bool true) ∧ Bel w w' := by
  go_enter Try.func41, Try.ntmps41
  go_wp2
  go_ret
  exact ⟨rfl, bel_alloc (bel_alloc (Bel.refl _) _) _⟩

theorem infoTile : (Try.prog.info? 25).map (fun i => (i.zero, i.size, i.bytes)) = some (some (.agg #[.int .i64 0, .int .i64 0, .int .i64 0]), 3, 24) := by kernel_rfl
set_option maxHeartbeats 1000000 in
theorem eqTileS_same (a a' : Option Addr) (n c c' : Nat) (l : List TileD) (bs bs' : List Nat) (w : World) (hP : TileL w a l bs) (hP' : TileL w a' l bs') (hn : l.length = n) (hm : n ≤ 1048576) :
    Calls Try.prog 17 #[.slice a n c, .slice a' n c'] w fun e w' => e = .returned (.bool true) ∧ Bel w w' := by
  have Hn : Hid (l.length = n) := hn
  clear hn
  go_enter Try.func17, Try.ntmps17
  go_wp2
  go_loopw [5] (fun i wr => ∃ k : Nat, k ≤ n ∧ i = .int .i64 k ∧ Bel w wr) (fun i _ => n - (intOf i).toNat)
  case atStart => exact ⟨0, Nat.zero_le _, rfl, Bel.refl _⟩
  case round =>
    obtain ⟨k, hk, rfl, hbel⟩ := hrel
    by_cases hlt : k < n
    · have hkl : k < l.length := by rw [Hn.out]; exact hlt
      obtain ⟨b, off, f, rfl, h2, h3⟩ := (hP.bel tileE hbel).out hkl
      obtain ⟨b', off', f', rfl, h2', h3'⟩ := (hP'.bel tileE hbel).out hkl
      obtain ⟨_, in0, in1, in2, c0, c1, c2⟩ := h3 k hkl
      obtain ⟨_, in0', in1', in2', c0', c1', c2'⟩ := h3' k hkl
      have hR : ∀ w', Bel wr w' → w'.cell? ⟨b, off + k * 3, none⟩ = some (.int .i64 l[k].z) ∧ w'.cell? ⟨b, off + k * 3 + 1, none⟩ = some (.int .i64 l[k].x) ∧ w'.cell? ⟨b, off + k * 3 + 2, none⟩ = some (.int .i64 l[k].y) ∧ w'.cell? ⟨b', off' + k * 3, none⟩ = some (.int .i64 l[k].z) ∧ w'.cell? ⟨b', off' + k * 3 + 1, none⟩ = some (.int .i64 l[k].x) ∧ w'.cell? ⟨b', off' + k * 3 + 2, none⟩ = some (.int .i64 l[k].y) :=
        fun w' h => ⟨bel_cellM h h2 c0, bel_cellM h h2 c1, bel_cellM h h2 c2, bel_cellM h h2' c0', bel_cellM h h2' c1', bel_cellM h h2' c2'⟩
      have hlt' : (k : Int) < (n : Int) := by omega
      have g0 : Bel wr wr := Bel.refl _
      clear h3 h3' c0 c0' c1 c1' c2 c2' h2 h2' hP hP'
      go_wp2
      go_region_held3 (fun w' => Bel wr w') (repeat (first | exact g0 | refine Bel.drew ?_ | assumption | refine bel_then (by assumption) ?_))
        (first
          | (go_at_call 41; refine (eqTile_same l[k].z l[k].x l[k].y _).mono ?_; rintro e w' ⟨rfl, hbk⟩))
      have hH : Bel wr w' := by assumption
      go_wp2
      go_roundw
      case rel => exact ⟨k + 1, by omega, by go_num, bel_step hbel hH⟩
      case measure => simp [intOf]; omega
    · have e : k = n := by omega
      subst e
      go_wp2
      go_ret
      exact ⟨rfl, hbel⟩

end Go.Proofs.Ythlgednppcapbaa
