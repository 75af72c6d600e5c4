/-
  Contracts of SortSpace, in the program and in its model: for every row.
-/
import Derived.Test.YtkinpfnelmdmlaaDoorNumB
import Derived.Test.YtkinpfnelmdmlaaDoorSpSrt
import Derived.Test.YtkinpfnelmdmlaaDoorOwnB
namespace Go.Proofs.YtkinpfnelmdmlaaDoor
open Go.RowKit Go.Maps

/-- The numbers of a row in the order of codes; of what is no row nothing. -/
def SrtL (n : Nat) (X Y : Nat → Int) (l : List Int) : Prop := (rowB n X Y = false ∧ l = []) ∨ (rowB n X Y = true ∧ ∃ o, Bk (fun i => cod (X i) (Y i)) o 0 n ∧ l = lsO o n)
theorem SrtL.one {n : Nat} {X Y : Nat → Int} {l l' : List Int} (h : SrtL n X Y l) (g : SrtL n X Y l') : l = l' := by
  rcases h with ⟨h1, rfl⟩ | ⟨h1, o, h2, rfl⟩
  · rcases g with ⟨_, rfl⟩ | ⟨g1, _⟩
    · rfl
    · rw [h1] at g1; cases g1
  · rcases g with ⟨g1, _⟩ | ⟨_, o', g2, rfl⟩
    · rw [h1] at g1; cases g1
    · unfold lsO
      exact List.map_congr_left fun x hx => by rw [h2.one g2 x (List.mem_range.1 hx)]
theorem SrtL.len {n : Nat} {X Y : Nat → Int} {l : List Int} (h : SrtL n X Y l) : l.length ≤ n := by
  rcases h with ⟨_, rfl⟩ | ⟨_, o, _, rfl⟩
  · simp
  · rw [lsO_len]; exact Nat.le_refl _
theorem SrtL.in64 {n : Nat} {X Y : Nat → Int} {l : List Int} (h : SrtL n X Y l) (hn : n ≤ 1048576) : ∀ y ∈ l, In64 y := by
  rcases h with ⟨_, rfl⟩ | ⟨_, o, h2, rfl⟩
  · intro y hy; cases hy
  · exact lsO_in64 (fun x hx => (h2.2 x (Nat.zero_le _) hx).2) hn
theorem row_out {w : World} {B n base : Nat} {d : Nat → Nat} (h : w.rowIs B 2 n (fun i => .int .i64 ((d i : Nat) : Int))) (hd : ∀ i, i < n → d i < n) (hn : n ≤ 1048576) (hB : base ≤ B) (m cap : Nat) (hm : m ≤ n) : OutI base w (.slice (some ⟨B, 0, none⟩) m cap) (lsO d m) := by
  have hml : ∀ x ∈ B :: (List.range m).flatMap (fun _ => ([] : List Nat)), x = B := fun x hx => by
    rcases List.mem_cons.1 hx with h | h
    · exact h
    · obtain ⟨_, _, h⟩ := List.mem_flatMap.1 h
      exact nomatch h
  refine ⟨some ⟨B, 0, none⟩, cap, B :: (List.range m).flatMap (fun _ => []), by rw [lsO_len], .inr ⟨B, 0, fun _ => [], rfl, h.lt, by rw [lsO_len], fun i hi => ?_⟩, fun x hx => by rw [hml x hx]; exact ⟨hB, h.lt⟩, fun x hx j => by rw [hml x hx]; exact h.frozen j⟩
  have hi' : i < m := by rw [lsO_len] at hi; exact hi
  have hdi := hd i (by omega)
  rw [lsO_at]
  refine ⟨rfl, ⟨by omega, by omega⟩, ?_⟩
  rw [Nat.zero_add, Nat.mul_one, h.cell (by omega)]

set_option maxRecDepth 100000 in
set_option maxHeartbeats 1000000 in
theorem sortSpace_any (a : Option Addr) (n c : Nat) (X Y : Nat → Int) (w : World) (hP : Pts w a n X Y) (hT : SpTab w) (hn : n ≤ 1048576) :
    Calls Tryd.prog 6 #[.slice a n c] w fun e w' => ∃ v l, e = .returned v ∧ OutI w.heap.size w' v l ∧ SrtL n X Y l ∧ Bel w w' := by
  go_enter Tryd.func6, Tryd.ntmps6
  go_wp2_with fail
  refine (rowOk_any _ _ _ X Y _ hP hn).mono ?_
  rintro e w1 ⟨rfl, hb1⟩
  cases hok : rowB n X Y
  · have HS : Hid (SrtL n X Y []) := (Or.inl ⟨hok, rfl⟩ : SrtL n X Y [])
    go_wp2
    go_ret
    exact ⟨_, [], rfl, ⟨none, 0, [], rfl, Sl.nil, (fun _ h => nomatch h), (fun _ h => nomatch h)⟩, HS.out, hb1⟩
  · have h2 := (rowB_out hok).1
    have HR : Hid (rowB n X Y = true) := hok
    have hP1 := hP.bel hb1
    have hT1 := hT.bel hb1
    clear hok hP hT
    go_wp2_with fail
    refine (numbersBy_any _ _ _ X Y _ hP1 hT1 h2).mono ?_
    rintro e w2 ⟨d, rfl, r2, B2, hb2⟩
    have HO : Hid (OutI w.heap.size w2 (.slice (some ⟨w1.heap.size + 1 + 1, 0, none⟩) n n) (lsO d n)) := row_out r2 (fun i hi => (B2.2 i (Nat.zero_le _) hi).2) hn (by have := hb1.out.size; omega) n n (Nat.le_refl _)
    have HS : Hid (SrtL n X Y (lsO d n)) := (Or.inr ⟨HR.out, d, B2, rfl⟩ : SrtL n X Y (lsO d n))
    clear r2 B2 hP1 hT1
    go_wp2
    go_ret
    exact ⟨_, _, rfl, HO.out, HS.out, bel_step hb1 hb2⟩

end Go.Proofs.YtkinpfnelmdmlaaDoor
