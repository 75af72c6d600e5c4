/-
  Contract of Nearest in the program: for every row, every point, every number.
-/
import Derived.Test.YtkinpfnelmdmlaaDoorXD
import Derived.Test.YtkinpfnelmdmlaaDoorSpNst
import Derived.Test.YtkinpfnelmdmlaaDoorOwnB
namespace Go.Proofs.YtkinpfnelmdmlaaDoor
open Go.RowKit Go.Maps

theorem NstL.one {n : Nat} {X Y : Nat → Int} {px py k : Int} {l l' : List Int} (h : NstL n X Y px py k l) (g : NstL n X Y px py k l') : l = l' := by
  rcases h with ⟨h1, rfl⟩ | ⟨h1, o, h2, rfl⟩
  · rcases g with ⟨_, rfl⟩ | ⟨g1, _⟩
    · rfl
    · exact absurd g1 h1
  · rcases g with ⟨g1, _⟩ | ⟨_, o', g2, rfl⟩
    · exact absurd h1 g1
    · exact lsO_same fun x hx => h2.one g2 x (by omega)
theorem NstL.len {n : Nat} {X Y : Nat → Int} {px py k : Int} {l : List Int} (h : NstL n X Y px py k l) : l.length ≤ n := by
  rcases h with ⟨_, rfl⟩ | ⟨_, o, _, rfl⟩
  · simp
  · rw [lsO_lenX]; omega
theorem NstL.in64 {n : Nat} {X Y : Nat → Int} {px py k : Int} {l : List Int} (h : NstL n X Y px py k l) (hn : n ≤ 1048576) : ∀ y ∈ l, In64 y := by
  rcases h with ⟨_, rfl⟩ | ⟨_, o, h2, rfl⟩
  · intro y hy; cases hy
  · exact lsO_in64X (fun x hx => (h2.2 x (Nat.zero_le _) (by omega)).2) hn
theorem row_outN {w : World} {B n base : Nat} {d : Nat → Nat} (h : w.rowIs B 2 n (fun i => .int .i64 ((d i : Nat) : Int))) (hd : ∀ i, i < n → d i < n) (hn : n ≤ 1048576) (hB : base ≤ B) (m cap : Nat) (hm : m ≤ n) : OutI base w (.slice (some ⟨B, 0, none⟩) m cap) (lsOX d m) := by
  have hml : ∀ x ∈ B :: (List.range m).flatMap (fun _ => ([] : List Nat)), x = B := fun x hx => by
    rcases List.mem_cons.1 hx with h | h
    · exact h
    · obtain ⟨_, _, h⟩ := List.mem_flatMap.1 h
      exact nomatch h
  refine ⟨some ⟨B, 0, none⟩, cap, B :: (List.range m).flatMap (fun _ => []), by rw [lsO_lenX], .inr ⟨B, 0, fun _ => [], rfl, h.lt, by rw [lsO_lenX], fun i hi => ?_⟩, fun x hx => by rw [hml x hx]; exact ⟨hB, h.lt⟩, fun x hx j => by rw [hml x hx]; exact h.frozen j⟩
  have hi' : i < m := by rw [lsO_lenX] at hi; exact hi
  have hdi := hd i (by omega)
  rw [lsO_atX]
  refine ⟨rfl, ⟨by omega, by omega⟩, ?_⟩
  rw [Nat.zero_add, Nat.mul_one, h.cell (by omega)]

set_option maxRecDepth 100000 in
set_option maxHeartbeats 4000000 in
theorem nearest_any (a : Option Addr) (n c : Nat) (X Y : Nat → Int) (px py k : Int) (w : World) (hP : Pts w a n X Y) (hn : n ≤ 1048576) (wk : In64 k) :
    Calls Tryd.prog 13 #[.slice a n c, pt px py, .int .i64 k] w fun e w' => ∃ v l, e = .returned v ∧ OutI w.heap.size w' v l ∧ NstL n X Y px py k l ∧ Bel w w' := by
  have HP : Hid (Pts w a n X Y) := hP
  obtain ⟨W0, HW0⟩ : ∃ V : World, Hid (V = w.alloc (.cells #[.int .i64 px, .int .i64 py] 26)) := ⟨_, (rfl : w.alloc (.cells #[.int .i64 px, .int .i64 py] 26) = _)⟩
  have hBW : Bel w W0 := by rw [HW0.out]; exact bel_alloc (Bel.refl _) _
  have XB : Blk W0 w.heap.size [.int .i64 px, .int .i64 py] := by rw [HW0.out]; exact Blk.new w [.int .i64 px, .int .i64 py] _
  have HNo : Hid (∀ w', OutI w.heap.size w' (.slice none 0 0) []) := fun w' => ⟨none, 0, [], rfl, Sl.nil, (fun _ h => nomatch h), (fun _ h => nomatch h)⟩
  clear hP
  go_enter Tryd.func13, Tryd.ntmps13
  go_wp2_with fail
  rw [← HW0.out]
  refine (rowOk_any _ _ _ X Y _ (HP.out.bel hBW) hn).mono ?_
  rintro e w1 ⟨rfl, S1⟩
  have XB1 := XB.bel S1
  have c0 := XB1.cell 0 (by simp)
  have c1 := XB1.cell 1 (by simp)
  simp only [List.getElem_cons_zero, List.getElem_cons_succ] at c0 c1
  clear HW0
  cases hok : rowB n X Y
  · have HS : Hid (NstL n X Y px py k []) := (Or.inl ⟨(fun h => by rw [hok] at h; cases h.1), rfl⟩ : NstL n X Y px py k [])
    clear hok XB1
    go_wp2
    go_ret
    exact ⟨_, [], rfl, HNo.out _, HS.out, bel_step hBW S1⟩
  · have HRB : Hid (rowB n X Y = true) := hok
    obtain ⟨h20, hX⟩ := rowB_out hok
    have HX : Hid (∀ i, i < n → POk (X i) (Y i)) := hX
    clear hok hX
    go_wp2_with fail
    refine (pointOk_any _ _ _).mono ?_
    rintro e w2 ⟨rfl, S2⟩
    have S02 : Bel W0 w2 := bel_step S1 S2
    have XB2 := XB1.bel S2
    clear c0 c1 S1 S2 XB1
    cases hpk : pok px py
    · have HS : Hid (NstL n X Y px py k []) := (Or.inl ⟨(fun h => by rw [hpk] at h; cases h.2.1), rfl⟩ : NstL n X Y px py k [])
      clear hpk XB2
      go_wp2
      go_ret
      exact ⟨_, [], rfl, HNo.out _, HS.out, bel_step hBW S02⟩
    · have HPk : Hid (pok px py = true) := hpk
      have hpp := pOk_iff.1 hpk
      clear hpk
      by_cases hk1 : k < 1
      · have HS : Hid (NstL n X Y px py k []) := (Or.inl ⟨(fun h => by have := h.2.2; omega), rfl⟩ : NstL n X Y px py k [])
        clear XB2
        go_wp2
        go_ret
        exact ⟨_, [], rfl, HNo.out _, HS.out, bel_step hBW S02⟩
      · obtain ⟨kk, rfl⟩ : ∃ kk : Nat, k = kk := ⟨k.toNat, by omega⟩
        have hkk : 1 ≤ kk := by omega
        have cN := numbersBy_anyX a n c X Y w2 (HP.out.bel (bel_step hBW S02)) px py w.heap.size XB2 hpp HX.out h20
        clear wk XB2
        go_wp2_with fail
        refine cN.mono ?_
        rintro e w3 ⟨d, rfl, r3, B3, S3⟩
        obtain ⟨m, Hm⟩ : ∃ m, Hid (min n kk = m) := ⟨_, (rfl : min n kk = _)⟩
        have hmn : m ≤ n := by rw [← Hm.out]; omega
        have hmi : min (kk : Int) (n : Int) = (m : Int) := by rw [← Hm.out]; omega
        have HO : Hid (OutI w.heap.size w3 (.slice (some ⟨w2.heap.size + 1 + 1, 0, none⟩) m n) (lsOX d m)) := row_outN r3 (fun i hi => (B3.2 i (Nat.zero_le _) hi).2) hn (by have := (bel_step hBW S02).out.size; omega) m n hmn
        have HS : Hid (NstL n X Y px py kk (lsOX d m)) := (Or.inr ⟨⟨HRB.out, HPk.out, by omega⟩, d, B3, by rw [← Hm.out]; rfl⟩ : NstL n X Y px py kk (lsOX d m))
        have hmn' : (m : Int) ≤ (n : Int) := by omega
        clear cN r3 B3
        go_wp2
        go_ret
        exact ⟨_, _, rfl, HO.out, HS.out, bel_step (bel_step hBW S02) S3⟩
end Go.Proofs.YtkinpfnelmdmlaaDoor
