/-
  Contracts of the laws' own functions on String data: counted, copied, held against each other.
-/
import Derived.Test.YtonedkibbdbgjaaMem
import Derived.Test.YtonedkibbdbgjaaLinD
import Derived.Deep.LoopGhost
import Derived.OwnWalk
import Derived.Deep.RegionHeld3
namespace Go.Proofs.Ytonedkibbdbgjaa
open Go.RowKit

theorem infoString : (Try.prog.info? 9).map (fun i => (i.zero, i.size, i.bytes)) = some (some (.string ⟨#[]⟩), 1, 16) := by kernel_rfl
set_option maxHeartbeats 1000000 in
theorem eqStringS_same (a a' : Option Addr) (n c c' : Nat) (l : List ByteArray) (bs bs' : List Nat) (w : World) (hP : StrL w a l bs) (hP' : StrL w a' l bs') (hn : l.length = n) (hm : n ≤ 1048576) :
    Calls Try.prog 10 #[.slice a n c, .slice a' n c'] w fun e w' => e = .returned (.bool true) ∧ Bel w w' := by
  have Hn : Hid (l.length = n) := hn
  clear hn
  go_enter Try.func10, Try.ntmps10
  go_wp2
  go_loopw [5] (fun i wr => ∃ k : Nat, k ≤ n ∧ i = .int .i64 k ∧ Bel w wr) (fun i _ => n - (intOf i).toNat)
  case atStart => exact ⟨0, Nat.zero_le _, rfl, Bel.refl _⟩
  case round =>
    obtain ⟨k, hk, rfl, hbel⟩ := hrel
    by_cases hlt : k < n
    · have hkl : k < l.length := by rw [Hn.out]; exact hlt
      obtain ⟨b, off, f, rfl, h2, h3⟩ := (hP.bel strE hbel).out hkl
      obtain ⟨b', off', f', rfl, h2', h3'⟩ := (hP'.bel strE hbel).out hkl
      obtain ⟨_, in0, c0⟩ := h3 k hkl
      obtain ⟨_, in0', c0'⟩ := h3' k hkl
      simp only [Nat.mul_one] at c0 c0'
      have hR : ∀ w', Bel wr w' → w'.cell? ⟨b, off + k, none⟩ = some (.string l[k]) ∧ w'.cell? ⟨b', off' + k, none⟩ = some (.string l[k]) :=
        fun w' h => ⟨bel_cellM h h2 c0, bel_cellM h h2' c0'⟩
      have hlt' : (k : Int) < (n : Int) := by omega
      have g0 : Bel wr wr := Bel.refl _
      clear h3 h3' c0 c0' h2 h2' hP hP'
      go_wp2
      go_quiet (fail)
      have hH : Bel wr (wr.drewN nq) := bel_drewN (Bel.refl _) _
      go_wp2
      go_roundw
      case rel => exact ⟨k + 1, by omega, by go_num, bel_step hbel hH⟩
      case measure => simp [intOf]; omega
    · have e : k = n := by omega
      subst e
      go_wp2
      go_ret
      exact ⟨rfl, hbel⟩

end Go.Proofs.Ytonedkibbdbgjaa
