/-
  The points of a way, in the program: the contract.
-/
import Derived.Test.YtmmapkpieimibaaGreatPtM
namespace Go.Proofs.YtmmapkpieimibaaGreat
open Go.RowKit Go.Maps

set_option maxRecDepth 100000 in
set_option maxHeartbeats 2000000 in
theorem rowI_any (an : Option Addr) (nn cn : Nat) (aw : Option Addr) (nw cw : Nat) (aa : Option Addr) (na ca : Nat) (bN bW : Nat) (id : Int) (a1 : Option Addr) (n1 c1 : Nat) (a2 : Option Addr) (n2 c2 : Nat)
    (ns : List Int) (bs : List Nat) (l : List NodeD) (q0 : List Nat) (T : Nat → Bool) (base : Nat) (w : World) (hbase : base ≤ w.heap.size) (hI : Ints w a2 ns bs) (hn : ns.length = n2) (hm : n2 ≤ 2000) (hN : NRecs w an l q0) (hl : l.length = nn) (hA : AscP l.length (nId l) T)
    (hM : MapAt w bN l.length (plc (nId l) l.length)) (hh : ∀ j (h : j < ns.length), HasI l.length (nId l) ns[j]) :
    Calls Tryz.prog 85 #[chV an nn cn aw nw cw aa na ca bN bW, .agg #[.int .i64 id, .slice a1 n1 c1, .slice a2 n2 c2]] w fun e w' => ∃ v', e = .returned v' ∧ OutP base w' v' (rowTo l ns n2) ∧ Bel w w' := by
  have Hn : Hid (ns.length = n2) := hn
  have Hl : Hid (l.length = nn) := hl
  have HA : Hid (AscP l.length (nId l) T) := hA
  have HH : Hid (∀ j (h : j < ns.length), HasI l.length (nId l) ns[j]) := hh
  have hmk : ∀ w : World, (Instr.makeSlice 166 (.int .i64 n2) (.int .i64 n2)).run Tryz.prog w = .ok (.slice (some ⟨w.heap.size, 0, none⟩) n2 n2) (w.alloc (.cells (madeCells #[.int .i64 0, .int .i64 0] (n2 * 2)) 39)) := fun w => by
    obtain ⟨i0, hi, hz0, hz1, hz2⟩ := info_parts infoP
    have := run_make (P := Tryz.prog) w 166 39 i0 (.agg #[.int .i64 0, .int .i64 0]) Tryz.underlying166 hi hz0 .i64 .i64 n2 n2 (by omega) (by omega) (by rw [hz2]; omega) (by omega)
    rw [hz1] at this
    exact this
  obtain ⟨W, HW⟩ : ∃ W, Hid (W = (w.alloc (.cells #[.slice an nn cn, .slice aw nw cw, .slice aa na ca, .map (some bN), .map (some bW)] 81)).alloc (.cells #[.int .i64 id, .slice a1 n1 c1, .slice a2 n2 c2] 95)) := ⟨_, (rfl : (w.alloc (.cells #[.slice an nn cn, .slice aw nw cw, .slice aa na ca, .map (some bN), .map (some bW)] 81)).alloc (.cells #[.int .i64 id, .slice a1 n1 c1, .slice a2 n2 c2] 95) = _)⟩
  have hB : Bel w W := by rw [HW.out]; exact bel_alloc (bel_alloc (Bel.refl _) _) _
  have X0 : Blk W w.heap.size [.slice an nn cn, .slice aw nw cw, .slice aa na ca, .map (some bN), .map (some bW)] := by rw [HW.out]; exact (Blk.new w [.slice an nn cn, .slice aw nw cw, .slice aa na ca, .map (some bN), .map (some bW)] _).bel (bel_alloc (Bel.refl _) _)
  have X1 : Blk W (w.heap.size + 1) [.int .i64 id, .slice a1 n1 c1, .slice a2 n2 c2] := by rw [HW.out]; exact Blk.new1 w _ [.int .i64 id, .slice a1 n1 c1, .slice a2 n2 c2] _
  have y2 : W.cell? ⟨w.heap.size + 1, 2, none⟩ = some (.slice a2 n2 c2) := X1.cell 2 (by simp)
  have hWs : W.heap.size = w.heap.size + 1 + 1 := by rw [HW.out]; simp
  have hS0 : Fill 2 PtE (W.alloc (.cells (madeCells #[.int .i64 0, .int .i64 0] (n2 * 2)) 39)) (w.heap.size + 1 + 1) n2 0 (rowTo l ns n2) (fun _ => []) := by rw [← hWs]; exact Fill.start _ _ _ _ _ _
  have HM := hM.bel hB
  have HI := hI.bel intE hB
  have HN := hN.bel nRecE hB
  clear hn hl hA hh hM hI hN X1
  go_enter Tryz.func85, Tryz.ntmps85
  go_wp2
  rw [← HW.out]
  go_loopw [6, 7, 15] (fun _ _ i wr => ∃ k : Nat, k ≤ n2 ∧ i = .int .i64 k ∧ (∃ f, Fill 2 PtE wr (w.heap.size + 1 + 1) n2 k (rowTo l ns n2) f) ∧ Bel W wr) (fun _ _ i _ => n2 - (intOf i).toNat)
  case atStart => exact ⟨0, Nat.zero_le _, rfl, ⟨_, hS0⟩, bel_alloc (Bel.refl _) _⟩
  case round =>
    obtain ⟨k, hk, rfl, ⟨f, hF⟩, hBr⟩ := hrel
    by_cases hlt : k < n2
    · have hkl : k < ns.length := by rw [Hn.out]; exact hlt
      obtain ⟨b, off, g, rfl, hb, hx⟩ := (HI.bel intE hBr).out hkl
      obtain ⟨_, ix, cx⟩ := hx k hkl
      rw [Nat.mul_one] at cx
      obtain ⟨j0, hj0, hI0⟩ := HH.out k hkl
      obtain ⟨x, Hx⟩ : ∃ x, Hid (x = ns[k]) := ⟨_, (rfl : ns[k] = _)⟩
      rw [← Hx.out] at cx ix hI0
      have hlook := (HM.bel hBr).at ix
      rw [show (plc (nId l) l.length x).getD 0 = (j0 : Int) by
        have := posI_at HA.out hj0
        unfold posI at this
        rw [hI0] at this
        cases hp : plc (nId l) l.length x with
        | none => rw [hp] at this; simp at this
        | some q => rw [hp] at this; simpa using this] at hlook
      obtain ⟨b2, off2, g2, rfl, hb2, hx2⟩ := (HN.bel nRecE hBr).out hj0
      obtain ⟨_, inx, iny, _, e2, e3, _⟩ := hx2 j0 hj0
      have HP : Hid (ptI l x = ⟨l[j0].x, l[j0].y⟩) := ptI_at HA.out hj0 hI0
      obtain ⟨d, Hd⟩ : ∃ d, Hid (d = l[j0]) := ⟨_, (rfl : l[j0] = _)⟩
      rw [← Hd.out] at e2 e3 HP inx iny
      have hj1 : (j0 : Int) < (nn : Int) := by have := Hl.out; omega
      have hlt' : (k : Int) < (n2 : Int) := by omega
      have x0 : wr.cell? ⟨w.heap.size, 0, none⟩ = some (.slice (some ⟨b2, off2, none⟩) nn cn) := (X0.bel hBr).cell 0 (by simp)
      have x3 : wr.cell? ⟨w.heap.size, 3, none⟩ = some (.map (some bN)) := (X0.bel hBr).cell 3 (by simp)
      obtain ⟨v0, d50⟩ := hF.there (k * 2) (by omega)
      have f0 := hF.free (k * 2)
      obtain ⟨v1, d51⟩ := hF.there (k * 2 + 1) (by omega)
      have f1 := hF.free (k * 2 + 1)
      have HE : Hid (∃ f, Fill 2 PtE (setRow wr (w.heap.size + 1 + 1) (k * 2) [.int .i64 d.x, .int .i64 d.y]) (w.heap.size + 1 + 1) n2 (k + 1) (rowTo l ns n2) f) := by
        have S := setRow_in (w.heap.size + 1 + 1) [.int .i64 d.x, .int .i64 d.y] wr (k * 2) (fun j hj => hF.there _ (by simp at hj; omega))
        refine ⟨_, hF.put ptE (Bel.refl _) hlt (by rw [rowTo_len (by rw [Hn.out]; exact Nat.le_refl _)]) (Fresh.nil _ _) [.int .i64 d.x, .int .i64 d.y] rfl ?_⟩
        rw [rowTo_at _ hkl, ← Hx.out, HP.out]
        exact ⟨rfl, inx, iny, S 0 (by simp), S 1 (by simp)⟩
      have hB7 : Bel W (setRow wr (w.heap.size + 1 + 1) (k * 2) [.int .i64 d.x, .int .i64 d.y]) := setRow_bel hBr (Nat.le_of_eq hWs) _ _
      clear hx hx2 hF hBr HI HM HN
      go_wp2
      go_roundw
      case rel => exact ⟨k + 1, by omega, by go_num, HE.out, hB7⟩
      case measure => simp [intOf]; omega
    · have e : k = n2 := by omega
      subst e
      have HO : Hid (OutP base wr (.slice (some ⟨w.heap.size + 1 + 1, 0, none⟩) k k) (rowTo l ns k)) := fill_out hF (rowTo_len (by rw [Hn.out]; exact Nat.le_refl _)) (by omega)
      clear hF
      go_wp2
      go_ret
      exact ⟨_, rfl, HO.out, bel_step hB hBr⟩
end Go.Proofs.YtmmapkpieimibaaGreat
