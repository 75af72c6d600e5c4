/-
  Maps as the laws count, copy and compare them: contracts in one word.
-/
import Derived.Test.YtmmapkpieimibaaGreatDMap
import Derived.Test.YtmmapkpieimibaaGreatOpenM
namespace Go.Proofs.YtmmapkpieimibaaGreat
open Go.RowKit

theorem sumTo_el {α : Type} (f : α → Nat) {l : List α} {i : Nat} (h : i < l.length) : f l[i] ≤ sumTo f l l.length := by
  have h1 := sumTo_succ f h
  have h2 := sumTo_le f (l := l) (k := i + 1) (n := l.length) (by omega) rfl
  omega
theorem mapL_of {m : MapD} (h : mapSz m ≤ 1048576) : MapL m := by
  unfold mapSz nodesSz waysSz areasSz at h
  refine ⟨by omega, by omega, by omega, fun i hi => ?_, fun i hi => ?_, fun i hi => ?_⟩
  · have := sumTo_el nodeSz hi
    unfold nodeSz tagsSz at this
    unfold nodeSz tagsSz at h
    omega
  · have := sumTo_el waySz hi
    unfold waySz tagsSz at this
    unfold waySz tagsSz at h
    omega
  · have := sumTo_el areaSz hi
    unfold areaSz tagsSz at this
    unfold areaSz tagsSz at h
    omega

theorem szMap_v (v : Value) (m : MapD) (bs : List Nat) (left : Int) (w : World) (hV : MapV w v m bs) (hN : MapN m) (h0 : 0 ≤ left) (h1 : left ≤ 1048576) :
    Calls Tryz.prog 5 #[v, .int .i64 left] w fun e w' => e = .returned (.int .i64 (szR left (mapSz m))) ∧ Bel w w' := by
  obtain ⟨a0, c0, a1, c1, a2, c2, b0, b1, b2, rfl, _, t0, t1, t2⟩ := hV.out
  obtain ⟨k0, k1, k2⟩ := hN
  unfold maxLen at k0 k1 k2
  exact szMap_any _ _ _ m.nodes b0 _ _ _ m.ways b1 _ _ _ m.areas b2 left w t0 rfl t1 rfl t2 rfl k0 k1 k2 h0 h1
theorem toMap_v (v : Value) (m : MapD) (bs : List Nat) (w : World) (hV : MapV w v m bs) (hL : MapL m) :
    Calls Tryz.prog 7 #[v] w fun e w' => ∃ v' bs', e = .returned v' ∧ MapV w' v' m bs' ∧ Fresh w w' bs' ∧ Bel w w' := by
  obtain ⟨a0, c0, a1, c1, a2, c2, b0, b1, b2, rfl, _, t0, t1, t2⟩ := hV.out
  refine (toMap_any _ _ _ m.nodes b0 _ _ _ m.ways b1 _ _ _ m.areas b2 w t0 rfl t1 rfl t2 rfl hL.l0 hL.u0 hL.l1 hL.u1 hL.l2 hL.u2).mono ?_
  rintro e w' ⟨B0, d0, B1, d1, B2, d2, rfl, h0, h1, h2, hF, hb⟩
  exact ⟨_, _, rfl, ⟨_, _, _, _, _, _, d0, d1, d2, rfl, rfl, h0, h1, h2⟩, hF, hb⟩
theorem eqMap_v (v v' : Value) (m : MapD) (bs bs' : List Nat) (w : World) (hV : MapV w v m bs) (hV' : MapV w v' m bs') (hL : MapL m) :
    Calls Tryz.prog 10 #[v, v'] w fun e w' => e = .returned (.bool true) ∧ Bel w w' := by
  obtain ⟨a0, c0, a1, c1, a2, c2, b0, b1, b2, rfl, _, t0, t1, t2⟩ := hV.out
  obtain ⟨a0', c0', a1', c1', a2', c2', b0', b1', b2', rfl, _, t0', t1', t2'⟩ := hV'.out
  exact eqMap_same _ _ _ m.nodes b0 _ _ _ m.ways b1 _ _ _ m.areas b2 _ _ b0' _ _ b1' _ _ b2' w t0 rfl t1 rfl t2 rfl t0' t1' t2' hL.l0 hL.u0 hL.l1 hL.u1 hL.l2 hL.u2
end Go.Proofs.YtmmapkpieimibaaGreat
