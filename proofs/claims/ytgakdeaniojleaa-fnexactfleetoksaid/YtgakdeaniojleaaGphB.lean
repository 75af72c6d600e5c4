/-
  The small questions about a graph: an Id, a number of a list, two bans: contracts in the program.
-/
import Derived.Test.YtgakdeaniojleaaGphM
import Derived.Test.YtgakdeaniojleaaCmpO
namespace Go.Proofs.Ytgakdeaniojleaa
open Go.RowKit Go.Maps

theorem idG_r (x : Int) (r : Bool) (w : World) (h : idk x = r) :
    Calls Try.prog 48 #[.int .i64 x] w fun e w' => e = .returned (.bool r) ∧ w' = w := by
  subst h
  by_cases h1 : 0 < x <;> by_cases h2 : x ≤ 1000000000 <;> (
    go_enter Try.func48, Try.ntmps48
    go_wp2
    go_ret
    exact ⟨ret_bl (by unfold idk; simp <;> omega), rfl⟩)
theorem l2IdG_r (x : Int) (r : Bool) (w : World) (h : idk x = r) :
    Calls Try.prog 32 #[.int .i64 x] w fun e w' => e = .returned (.bool r) ∧ w' = w := by
  subst h
  by_cases h1 : 1 ≤ x <;> by_cases h2 : x ≤ 1000000000 <;> (
    go_enter Try.func32, Try.ntmps32
    go_wp2
    go_ret
    exact ⟨ret_bl (by unfold idk; simp <;> omega), rfl⟩)
theorem pointG_r (x y : Int) (r : Bool) (w : World) (h : pok x y = r) :
    Calls Try.prog 49 #[pt x y] w fun e w' => e = .returned (.bool r) ∧ Bel w w' := by
  subst h; exact pointOk_any x y w
theorem specPointG_r (x y : Int) (r : Bool) (w : World) (h : pok x y = r) :
    Calls Try.prog 33 #[pt x y] w fun e w' => e = .returned (.bool r) ∧ Bel w w' := by
  subst h; exact specPointOk_any x y w
theorem inSpot_r (i : Int) (a : Option Addr) (n c : Nat) (r : Bool) (w : World) (h : inN n i = r) :
    Calls Try.prog 23 #[.int .i64 i, .slice a n c] w fun e w' => e = .returned (.bool r) ∧ w' = w := by
  subst h
  by_cases h1 : 0 ≤ i
  · by_cases h2 : i < n
    · have HR : Hid (true = inN n i) := (inN_iff.2 ⟨h1, h2⟩).symm
      go_enter Try.func23, Try.ntmps23
      go_wp2
      go_ret
      exact ⟨ret_bl HR.out, rfl⟩
    · have HR : Hid (false = inN n i) := (inN_not.2 fun h => h2 h.2).symm
      go_enter Try.func23, Try.ntmps23
      go_wp2
      go_ret
      exact ⟨ret_bl HR.out, rfl⟩
  · have HR : Hid (false = inN n i) := (inN_not.2 fun h => h1 h.1).symm
    go_enter Try.func23, Try.ntmps23
    go_wp2
    go_ret
    exact ⟨ret_bl HR.out, rfl⟩
theorem inRoad_r (i : Int) (a : Option Addr) (n c : Nat) (r : Bool) (w : World) (h : inN n i = r) :
    Calls Try.prog 50 #[.int .i64 i, .slice a n c] w fun e w' => e = .returned (.bool r) ∧ w' = w := by
  subst h
  by_cases h1 : 0 ≤ i
  · by_cases h2 : i < n
    · have HR : Hid (true = inN n i) := (inN_iff.2 ⟨h1, h2⟩).symm
      go_enter Try.func50, Try.ntmps50
      go_wp2
      go_ret
      exact ⟨ret_bl HR.out, rfl⟩
    · have HR : Hid (false = inN n i) := (inN_not.2 fun h => h2 h.2).symm
      go_enter Try.func50, Try.ntmps50
      go_wp2
      go_ret
      exact ⟨ret_bl HR.out, rfl⟩
  · have HR : Hid (false = inN n i) := (inN_not.2 fun h => h1 h.1).symm
    go_enter Try.func50, Try.ntmps50
    go_wp2
    go_ret
    exact ⟨ret_bl HR.out, rfl⟩

/-- Two bans, held against each other. -/
def bnz (a b : BanD) : Int := orz (cpz a.fr b.fr) (cpz a.to b.to)
theorem bnz_lt {a b : BanD} : bnz a b < 0 ↔ banLt a b := by
  unfold bnz orz cpz banLt
  by_cases h1 : a.fr < b.fr
  · simp [h1]
  · by_cases h2 : b.fr < a.fr
    · simp [h1, h2]; omega
    · have : a.fr = b.fr := by omega
      by_cases h3 : a.to < b.to
      · simp [h3, this]
      · by_cases h4 : b.to < a.to <;> simp [h3, h4, this]
set_option maxRecDepth 100000 in
set_option maxHeartbeats 1000000 in
theorem banCmp_any (a b : BanD) (w : World) :
    Calls Try.prog 51 #[.agg #[.int .i64 a.fr, .int .i64 a.to], .agg #[.int .i64 b.fr, .int .i64 b.to]] w fun e w' => e = .returned (.int .i64 (bnz a b)) ∧ Gw w w' := by
  obtain ⟨W, HW⟩ : ∃ W, Hid (W = (w.alloc (.cells #[.int .i64 a.fr, .int .i64 a.to] 77)).alloc (.cells #[.int .i64 b.fr, .int .i64 b.to] 77)) := ⟨_, (rfl : (w.alloc (.cells #[.int .i64 a.fr, .int .i64 a.to] 77)).alloc (.cells #[.int .i64 b.fr, .int .i64 b.to] 77) = _)⟩
  have hG : Gw w W := by rw [HW.out]; exact ((Gw.refl w).alloc _).alloc _
  have X0 : Blk W w.heap.size [.int .i64 a.fr, .int .i64 a.to] := by rw [HW.out]; exact (Blk.new w [.int .i64 a.fr, .int .i64 a.to] _).bel (bel_alloc (Bel.refl _) _)
  have X1 : Blk W (w.heap.size + 1) [.int .i64 b.fr, .int .i64 b.to] := by rw [HW.out]; exact Blk.new1 w _ [.int .i64 b.fr, .int .i64 b.to] _
  have hR : ∀ w', Gw W w' → w'.cell? ⟨w.heap.size, 0, none⟩ = some (.int .i64 a.fr) ∧ w'.cell? ⟨w.heap.size, 1, none⟩ = some (.int .i64 a.to) ∧ w'.cell? ⟨w.heap.size + 1, 0, none⟩ = some (.int .i64 b.fr) ∧ w'.cell? ⟨w.heap.size + 1, 1, none⟩ = some (.int .i64 b.to) := fun w' h =>
    ⟨(X0.bel h.bel).cell 0 (by simp), (X0.bel h.bel).cell 1 (by simp), (X1.bel h.bel).cell 0 (by simp), (X1.bel h.bel).cell 1 (by simp)⟩
  obtain ⟨p, Hp⟩ : ∃ p, Hid (cpz a.fr b.fr = p) := ⟨_, (rfl : cpz a.fr b.fr = _)⟩
  obtain ⟨q, Hq⟩ : ∃ p, Hid (cpz a.to b.to = p) := ⟨_, (rfl : cpz a.to b.to = _)⟩
  have HO : Hid (orz p q = bnz a b) := (by unfold bnz; rw [Hp.out, Hq.out] : orz p q = bnz a b)
  have c1 : ∀ w, Calls Try.prog 55 #[.int .i64 a.fr, .int .i64 b.fr] w fun e w' => e = .returned (.int .i64 p) ∧ w' = w := fun w => by rw [← Hp.out]; exact compare64_any _ _ _
  have c2 : ∀ w, Calls Try.prog 55 #[.int .i64 a.to, .int .i64 b.to] w fun e w' => e = .returned (.int .i64 q) ∧ w' = w := fun w => by rw [← Hq.out]; exact compare64_any _ _ _
  have g0 : Gw W W := Gw.refl _
  clear X0 X1
  go_enter Try.func51, Try.ntmps51
  go_wp2
  rw [← HW.out]
  go_region_held3 (fun w' => Gw W w') (with_reducible (repeat (first | assumption | exact g0 | refine Gw.drew ?_ | refine Gw.alloc ?_ _ | refine gw_then (by assumption) ?_)))
    (first
      | (go_at_call 55; with_reducible refine (c1 _).mono ?_; rintro e w' ⟨rfl, rfl⟩)
      | (go_at_call 55; with_reducible refine (c2 _).mono ?_; rintro e w' ⟨rfl, rfl⟩)
      | (go_at_call 54; refine (or2_any _ p q _ (by simp) (by simp)).mono ?_; rintro e w' ⟨rfl, rfl⟩))
  have hH : Gw W (W.alloc (.cells #[.int .i64 p, .int .i64 q] 3)).drew := by assumption
  go_wp2
  go_ret
  exact ⟨ret_num HO.out, hG.step hH⟩
end Go.Proofs.Ytgakdeaniojleaa
