/-
  Paint in the program and in its model: contracts.
-/
import Derived.Test.YtbebgfhblalghaaPntP
namespace Go.Proofs.Ytbebgfhblalghaa
open Go.RowKit Go.Maps

theorem testF : Flat 3 TestE TestP testCs :=
  ⟨fun _ => rfl, fun _ u hu => by simp only [testCs, List.mem_cons, List.not_mem_nil, or_false] at hu; rcases hu with rfl | rfl | rfl <;> rfl,
    fun ⟨_, h1, h2, h3, h4, h5, h6⟩ => ⟨⟨h1, h2, h3⟩, fun j hj => by match j, hj with | 0, _ => exact h4 | 1, _ => exact h5 | 2, _ => exact h6⟩,
    fun hp hc => ⟨rfl, hp.1, hp.2.1, hp.2.2, hc 0 (by simp [testCs]), hc 1 (by simp [testCs]), hc 2 (by simp [testCs])⟩⟩
theorem infoTs : (Try.prog.info? 155).map (fun i => (i.zero, i.size, i.bytes)) = some (some (.agg #[.string ⟨#[]⟩, .int .i64 0, .string ⟨#[]⟩]), 3, 40) := by kernel_rfl
set_option maxHeartbeats 1000000 in
theorem freshT_any (a : Option Addr) (n c : Nat) (l : List TestD) (bs : List Nat) (W0 w : World) (h0W : Bel W0 w) (hT : Tests w a l bs) (hn : l.length = n) (hm : n ≤ 1048576) :
    Calls Try.prog 113 #[.slice a n c] w fun e w' => ∃ a' c' bs', e = .returned (.slice a' n c') ∧ Tests w' a' l bs' ∧ Fresh W0 w' bs' ∧ Bel w w' := by
  obtain ⟨i0, hi0, hz0, hz1, hz2⟩ := info_parts infoTs
  have hown0 : w.ownsRow w.heap.size 155 3 (.slice none 0 0) 0 [] := World.ownsRow_nil _ _ _ _
  go_enter Try.func113, Try.ntmps113
  go_wp2_with (first
    | (at_builtin; refine wpList_append_flat testF (by decide) rfl _ _ 66 rfl w.heap.size 155 i0 (.agg #[.string ⟨#[]⟩, .int .i64 0, .string ⟨#[]⟩]) 40 Try.underlying66 hi0 hz0 hz1 hz2 rfl _ rfl hown0 a n c l bs rfl hT hn hm (by decide) (Nat.le_refl _) ?_)
    | go_in)
  intro a' c' bs' w3 HS HM hgrow
  have hB : Bel w w3 := bel_grow (Bel.refl _) hgrow (fun j e => by cases e)
  clear hgrow
  go_wp2
  go_ret
  exact ⟨_, _, bs', rfl, HS, HM.fresh h0W.out.size, hB⟩

/-- The zero rule. -/
def rulZ : RuleD := ⟨0, 0, [], false, ⟨#[]⟩, 0, 0⟩
/-- The rule that is told, and whether it paints. -/
def pntR (rs : List RuleD) (ts : List TagD) (z : Int) : RuleD := ((pntQ rs ts z).bind fun i => rs[i]?).getD rulZ
def pntB (rs : List RuleD) (ts : List TagD) (z : Int) : Bool := (pntQ rs ts z).isSome
theorem pntR_some {rs : List RuleD} {ts : List TagD} {z : Int} {i : Nat} (h : i < rs.length) (e : pntQ rs ts z = some i) : pntR rs ts z = rs[i] ∧ pntB rs ts z = true := by
  unfold pntR pntB; rw [e]; simp [h]
theorem pntR_none {rs : List RuleD} {ts : List TagD} {z : Int} (e : pntQ rs ts z = none) : pntR rs ts z = rulZ ∧ pntB rs ts z = false := by
  unfold pntR pntB; rw [e]; exact ⟨rfl, rfl⟩

/-- What the program does once the painter has answered. -/
def PaintTail (d : RuleD) (q : Bool) (w : World) (e : Ending) (w' : World) : Prop := ∃ a' c' bs', e = .returned (.tuple #[rulV d a' d.tests.length c', .bool q]) ∧ Tests w' a' d.tests bs' ∧ Fresh w w' bs' ∧ Bel w w'

set_option maxRecDepth 100000 in
set_option maxHeartbeats 4000000 in
theorem paint_any (a : Option Addr) (n c : Nat) (rs : List RuleD) (bs : List Nat) (at_ : Option Addr) (nt ct : Nat) (ts : List TagD) (bt : List Nat) (z : Int) (w : World) (hR : Rules w a rs bs) (hn : rs.length = n) (hm : n ≤ 1048576) (hs : ∀ i (h : i < rs.length), rs[i].tests.length ≤ 1048576) (hT : Tags w at_ ts bt) (hnt : ts.length = nt) (hmt : nt ≤ 1048576) :
    Calls Try.prog 53 #[.slice a n c, .slice at_ nt ct, .int .i64 z] w fun e w' => PaintTail (pntR rs ts z) (pntB rs ts z) w e w' := by
  obtain ⟨W, HW⟩ : ∃ W, Hid (W = w.alloc (.cells #[.int .i64 0, .int .i64 0, .slice none 0 0, .bool false, .string ⟨#[]⟩, .int .i64 0, .int .i64 0] 68)) := ⟨_, (rfl : w.alloc (.cells #[.int .i64 0, .int .i64 0, .slice none 0 0, .bool false, .string ⟨#[]⟩, .int .i64 0, .int .i64 0] 68) = _)⟩
  have hBW : Bel w W := by rw [HW.out]; exact bel_alloc (Bel.refl _) _
  have XW : Blk W w.heap.size [.int .i64 0, .int .i64 0, .slice none 0 0, .bool false, .string ⟨#[]⟩, .int .i64 0, .int .i64 0] := by rw [HW.out]; exact Blk.new w [.int .i64 0, .int .i64 0, .slice none 0 0, .bool false, .string ⟨#[]⟩, .int .i64 0, .int .i64 0] _
  go_enter Try.func53, Try.ntmps53
  go_wp2_with fail
  rw [← HW.out]
  refine (painterOf_any _ _ _ rs bs _ (hR.bel ruleE hBW) hn hm hs).mono ?_
  rintro e w1 ⟨A, S, rfl, P1, hb1⟩
  have hB1 := bel_step hBW hb1
  go_wp2_with fail
  refine (painter_any A S rs _ _ _ bs _ _ _ ts bt z _ P1 (hR.bel ruleE hB1) hn hm (hT.bel tagE hB1) hnt hmt).mono ?_
  rintro e w2 ⟨hA, hb2⟩
  have hB2 := bel_step hB1 hb2
  have hD2 : Bel W w2 := bel_step hb1 hb2
  obtain ⟨d, q, a2, k2, bs2, rfl, HD, t2, hl⟩ : ∃ d q a2 k2 bs2, e = .returned (.tuple #[rulV d a2 d.tests.length k2, .bool q]) ∧ Hid (pntR rs ts z = d ∧ pntB rs ts z = q) ∧ Tests w2 a2 d.tests bs2 ∧ d.tests.length ≤ 1048576 := by
    rcases hA with ⟨i, h, a2, k2, bs2, e1, e2, t⟩ | ⟨e1, e2⟩
    · exact ⟨rs[i], true, a2, k2, bs2, e2, pntR_some h e1, t, hs i h⟩
    · exact ⟨rulZ, false, none, 0, [], e2, pntR_none e1, Sl.nil, by decide⟩
  obtain ⟨V, HV⟩ : ∃ V, Hid (V = w2.alloc (.cells #[.int .i64 d.low, .int .i64 d.high, .slice a2 d.tests.length k2, .bool d.hide, .string d.col, .int .i64 d.wd, .int .i64 d.lay] 68)) := ⟨_, (rfl : w2.alloc (.cells #[.int .i64 d.low, .int .i64 d.high, .slice a2 d.tests.length k2, .bool d.hide, .string d.col, .int .i64 d.wd, .int .i64 d.lay] 68) = _)⟩
  have hbV : Bel w2 V := by rw [HV.out]; exact bel_alloc (Bel.refl _) _
  have XV : Blk V w2.heap.size [.int .i64 d.low, .int .i64 d.high, .slice a2 d.tests.length k2, .bool d.hide, .string d.col, .int .i64 d.wd, .int .i64 d.lay] := by rw [HV.out]; exact Blk.new w2 [.int .i64 d.low, .int .i64 d.high, .slice a2 d.tests.length k2, .bool d.hide, .string d.col, .int .i64 d.wd, .int .i64 d.lay] _
  have hBV := bel_step hB2 hbV
  have tV := t2.bel testE hbV
  clear P1 hb1 hb2 t2
  go_wp2_with fail
  rw [← HV.out]
  refine (freshT_any _ _ _ d.tests bs2 V _ (Bel.refl _) tV rfl hl).mono ?_
  rintro e w3 ⟨a3, k3, bs3, rfl, t3, F3, hb3⟩
  have hB3 := bel_step hBV hb3
  have Y0 := XW.bel (bel_step hD2 (bel_step hbV hb3))
  have Y1 := XV.bel hb3
  have y0 : w3.cell? ⟨w.heap.size, 0, none⟩ = some (.int .i64 0) := Y0.cell 0 (by simp)
  have y1 : w3.cell? ⟨w.heap.size, 1, none⟩ = some (.int .i64 0) := Y0.cell 1 (by simp)
  have y2 : w3.cell? ⟨w.heap.size, 2, none⟩ = some (.slice none 0 0) := Y0.cell 2 (by simp)
  have y3 : w3.cell? ⟨w.heap.size, 3, none⟩ = some (.bool false) := Y0.cell 3 (by simp)
  have y4 : w3.cell? ⟨w.heap.size, 4, none⟩ = some (.string ⟨#[]⟩) := Y0.cell 4 (by simp)
  have y5 : w3.cell? ⟨w.heap.size, 5, none⟩ = some (.int .i64 0) := Y0.cell 5 (by simp)
  have y6 : w3.cell? ⟨w.heap.size, 6, none⟩ = some (.int .i64 0) := Y0.cell 6 (by simp)
  have v0 : w3.cell? ⟨w2.heap.size, 0, none⟩ = some (.int .i64 d.low) := Y1.cell 0 (by simp)
  have v1 : w3.cell? ⟨w2.heap.size, 1, none⟩ = some (.int .i64 d.high) := Y1.cell 1 (by simp)
  have v2 : w3.cell? ⟨w2.heap.size, 2, none⟩ = some (.slice a2 d.tests.length k2) := Y1.cell 2 (by simp)
  have v3 : w3.cell? ⟨w2.heap.size, 3, none⟩ = some (.bool d.hide) := Y1.cell 3 (by simp)
  have v4 : w3.cell? ⟨w2.heap.size, 4, none⟩ = some (.string d.col) := Y1.cell 4 (by simp)
  have v5 : w3.cell? ⟨w2.heap.size, 5, none⟩ = some (.int .i64 d.wd) := Y1.cell 5 (by simp)
  have v6 : w3.cell? ⟨w2.heap.size, 6, none⟩ = some (.int .i64 d.lay) := Y1.cell 6 (by simp)
  have f0 := Y0.free
  have f1 := Y1.free
  have l0 := Y0.lt
  have l1 := Y1.lt
  have hne : ¬ w.heap.size = w2.heap.size := by have := hB2.out.size; have := hD2.out.size; have := XW.lt; omega
  have hne' : ¬ w2.heap.size = w.heap.size := fun h => hne h.symm
  have hVs : w2.heap.size < V.heap.size := by rw [HV.out]; simp
  have hws : w.heap.size < V.heap.size := by have := hB2.out.size; omega
  have n0 : w.heap.size ∉ bs3 := fun h => by have := (F3.new _ h).1; omega
  have n1 : w2.heap.size ∉ bs3 := fun h => by have := (F3.new _ h).1; omega
  have HE : Hid (PaintTail d q w (.returned (.tuple #[rulV d a3 d.tests.length k3, .bool q])) (setRow (w3.setCell ⟨w2.heap.size, 2, none⟩ (.slice a3 d.tests.length k3)) w.heap.size 0 [.int .i64 d.low, .int .i64 d.high, .slice a3 d.tests.length k3, .bool d.hide, .string d.col, .int .i64 d.wd, .int .i64 d.lay])) := by
    have hA : Alike w3 (setRow (w3.setCell ⟨w2.heap.size, 2, none⟩ (.slice a3 d.tests.length k3)) w.heap.size 0 [.int .i64 d.low, .int .i64 d.high, .slice a3 d.tests.length k3, .bool d.hide, .string d.col, .int .i64 d.wd, .int .i64 d.lay]) bs3 := by
      have h1 := (Alike.refl (t3.lt testE)).set n1 2 (.slice a3 d.tests.length k3)
      exact (((((((h1.set n0 0 (.int .i64 d.low)).set n0 1 (.int .i64 d.high)).set n0 2 (.slice a3 d.tests.length k3)).set n0 3 (.bool d.hide)).set n0 4 (.string d.col)).set n0 5 (.int .i64 d.wd)).set n0 6 (.int .i64 d.lay))
    have F3' : Fresh w w3 bs3 := F3.old hBV.out.size
    exact ⟨a3, k3, bs3, rfl, t3.alike testE hA, ⟨F3'.nd, fun b hb => ⟨(F3'.new b hb).1, (hA b hb).1⟩, fun b hb j => by rw [(hA b hb).2.2 j]; exact F3'.free b hb j⟩, setRow_bel (bel_set hB3 (by show w.heap.size ≤ w2.heap.size; exact hB2.out.size) _) (Nat.le_refl _) _ _⟩
  clear F3 t3 Y0 Y1 tV XV XW hR hT hs hD2 hbV hb3 HV HW hVs hws n0 n1
  go_wp2
  refine bodyPost_ret (v := .tuple #[rulV d a3 d.tests.length k3, .bool q]) (by simp [results, Try.results53, go_sem, y0, y1, y2, y3, y4, y5, y6]) rfl ?_
  rw [HD.out.1, HD.out.2]
  exact HE.out
end Go.Proofs.Ytbebgfhblalghaa
