/-
  Who uses a node, in the program: the contract.
-/
import Derived.Test.YtmmapkpieimibaaUseS
namespace Go.Proofs.Ytmmapkpieimibaa
open Go.RowKit Go.Maps

set_option maxRecDepth 100000 in
set_option maxHeartbeats 2000000 in
theorem usersOf_any (v : Value) (m : MapD) (bs : List Nat) (x : Int) (w : World) (hV : MapV w v m bs) (hL : MapL m) :
    Calls Try.prog 19 #[v, .int .i64 x] w fun e w' => ∃ v', e = .returned v' ∧ OwnI w.heap.size w' v' (usersQ m x) ∧ Bel w w' := by
  obtain ⟨i0, hi0, hz0, hz1, hz2⟩ := info_parts infoI
  have hV' := hV
  obtain ⟨a0, c0, a1, c1, a2, c2, b0, b1, b2, rfl, _, _, _, _⟩ := hV.out
  have HU : Hid (∀ i (h : i < m.ways.length), m.ways[i].nodes.length ≤ 1048576 ∧ m.ways[i].tags.length ≤ 1048576) := hL.u1
  clear hV
  go_enter Try.func19, Try.ntmps19
  go_wp2_with fail
  refine (chartOf_any _ m bs _ (hV'.bel (bel_alloc (Bel.refl _) _)) hL).mono ?_
  rintro e w1 (⟨hm, d0, k0, d1, k1, d2, k2, bN, bW, q0, q1, q2, rfl, _, hR, _, _, _, hb⟩ | ⟨hm, rfl, hb⟩)
  · have hB := bel_step (bel_alloc (Bel.refl w) _) hb
    obtain ⟨n1, hn1⟩ : ∃ n, m.ways.length = n := ⟨_, rfl⟩
    have H1 : Hid (m.ways.length = n1) := hn1
    have HQ : Hid (usersQ m x = usersTo m.ways x n1) := (by unfold usersQ; rw [if_pos hm, H1.out] : usersQ m x = usersTo m.ways x n1)
    have hle : n1 ≤ 1000 := by rw [← H1.out]; exact (bP_out hm).n2
    rw [hn1]
    clear hV' hm hb hn1
    obtain ⟨W, HW⟩ : ∃ W, Hid (W = w1.alloc (.cells #[.slice d0 m.nodes.length k0, .slice d1 n1 k1, .slice d2 m.areas.length k2, .map (some bN), .map (some bW)] 74)) := ⟨_, (rfl : w1.alloc (.cells #[.slice d0 m.nodes.length k0, .slice d1 n1 k1, .slice d2 m.areas.length k2, .map (some bN), .map (some bW)] 74) = _)⟩
    have S1 : Bel w1 W := by rw [HW.out]; exact bel_alloc (Bel.refl _) _
    have HR := hR.bel wRecE S1
    have hBW : Bel w W := bel_step hB S1
    have Xc : W.cell? ⟨w1.heap.size, 1, none⟩ = some (.slice d1 n1 k1) := by rw [HW.out]; exact (Blk.new w1 [.slice d0 m.nodes.length k0, .slice d1 n1 k1, .slice d2 m.areas.length k2, .map (some bN), .map (some bW)] 74).cell 1 (by simp)
    have O1 : OwnI W.heap.size W (.slice none 0 0) [] := World.ownsRow_nil _ _ _ _
    clear hR S1 hB
    go_wp2
    go_loopw [7, 9, 20] (fun o _ i wr => ∃ k : Nat, k ≤ n1 ∧ i = .int .i64 k ∧ OwnI W.heap.size wr o (usersTo m.ways x k) ∧ Bel W wr) (fun _ _ i _ => n1 - (intOf i).toNat)
    case atStart => exact ⟨0, Nat.zero_le _, rfl, by rw [← HW.out]; exact O1, by rw [← HW.out]; exact Bel.refl _⟩
    case round =>
      clear O1 HW
      obtain ⟨k, hk, rfl, hown, hBr⟩ := hrel
      obtain ⟨va, vc, rfl⟩ := own_shape hown
      by_cases hlt : k < n1
      · have hkl : k < m.ways.length := by rw [H1.out]; exact hlt
        obtain ⟨b, off, f, rfl, hb, hx⟩ := HR.out hkl
        obtain ⟨_, e0, a, c, a', c', g1, g2, _, _, _, e2, tt, e1, _⟩ := hx k hkl
        obtain ⟨d, Hd⟩ : ∃ d, Hid (d = m.ways[k]) := ⟨_, (rfl : m.ways[k] = _)⟩
        have hnl := (HU.out k hkl).1
        rw [← Hd.out] at e0 e1 e2 tt hnl
        have e0 := bel_cellM hBr hb e0
        have e1 := bel_cellM hBr hb e1
        have e2 := bel_cellM hBr hb e2
        have tt := tt.bel intE (bel_alloc hBr (.cells #[.int .i64 d.id, .slice a' d.tags.length c', .slice a d.nodes.length c] 87))
        have hBq := bel_alloc hBr (.cells #[.int .i64 d.id, .slice a' d.tags.length c', .slice a d.nodes.length c] 87)
        have hlt' : (k : Int) < (n1 : Int) := by omega
        have hln := usersTo_len m.ways x k
        have hszr := hBr.out.size
        have HO : Hid (OwnI W.heap.size (wr.alloc (.cells #[.int .i64 d.id, .slice a' d.tags.length c', .slice a d.nodes.length c] 87)) (.slice va (usersTo m.ways x k).length vc) (usersTo m.ways x k)) := World.ownsRow.alloc hown _
        clear hown hx
        go_wp2_with fail
        refine (contains_any _ _ _ d.nodes _ x _ tt rfl hnl).mono ?_
        rintro e w2 ⟨rfl, rfl⟩
        by_cases hin : x ∈ d.nodes
        · have HE : Hid (usersTo m.ways x (k + 1) = usersTo m.ways x k ++ [d.id]) := by rw [Hd.out] at hin ⊢; exact usersTo_yes hkl hin
          rw [decide_eq_true hin]
          have hown2 := World.ownsRow.alloc HO.out (.cells #[.int .i64 d.id] 2)
          have hBa := bel_alloc hBq (.cells #[.int .i64 d.id] 2)
          clear tt hin
          go_wp2_with (first
            | (at_builtin; refine wpList_append_own _ rfl _ _ 43 rfl W.heap.size 2 i0 (.int .i64 0) 1 8 Try.underlying43 hi0 hz0 hz1 hz2 rfl (by decide) _ _ _ rfl hown2 ⟨wr.heap.size + 1, 0, none⟩ 1 1 [.int .i64 d.id] rfl rfl ?c1 ?c2 ?c3 ?c4 ?c5 ?_)
            | go_in)
          case c1 =>
            intro j u hj
            match j, hj with
            | 0, hj => simp at hj; subst hj; simp [Addr.add]
          case c2 =>
            intro u hu
            simp at hu
            rcases hu with rfl
            rfl
          case c3 => unfold maxLen; omega
          case c4 => omega
          case c5 => simp; omega
          intro v' w3 hown' hgrow _
          have HO3 : Hid (OwnI W.heap.size w3 v' (usersTo m.ways x (k + 1))) := by rw [HE.out]; exact own_add hown'
          have hB3 : Bel W w3 := bel_grow hBa hgrow (fun j e => (hown2.lt j e).1)
          clear hown' hgrow hown2 hBa HO
          go_wp2
          go_roundw
          case rel => exact ⟨k + 1, by omega, by go_num, HO3.out, hB3⟩
          case measure => simp [intOf]; omega
        · have HE : Hid (usersTo m.ways x (k + 1) = usersTo m.ways x k) := by rw [Hd.out] at hin; exact usersTo_no hkl hin
          rw [decide_eq_false hin]
          clear tt hin
          go_wp2
          go_roundw
          case rel => exact ⟨k + 1, by omega, by go_num, by rw [HE.out]; exact HO.out, hBq⟩
          case measure => simp [intOf]; omega
      · have e : n1 = k := by omega
        subst e
        have HO : Hid (OwnI W.heap.size wr (.slice va (usersTo m.ways x n1).length vc) (usersTo m.ways x n1)) := hown
        clear hown
        go_wp2
        go_ret
        exact ⟨_, rfl, by rw [HQ.out]; exact own_base HO.out hBW.out.size, bel_step hBW hBr⟩
  · have HQ : Hid (usersQ m x = []) := (by unfold usersQ; rw [hm]; rfl : usersQ m x = [])
    have hB := bel_step (bel_alloc (Bel.refl w) _) hb
    clear hV' hm hb
    go_wp2
    go_ret
    have hB2 := bel_alloc hB (.cells #[.slice none 0 0, .slice none 0 0, .slice none 0 0, .map none, .map none] 74)
    exact ⟨_, rfl, by rw [HQ.out]; exact World.ownsRow_nil _ _ _ _, hB2⟩
end Go.Proofs.Ytmmapkpieimibaa
