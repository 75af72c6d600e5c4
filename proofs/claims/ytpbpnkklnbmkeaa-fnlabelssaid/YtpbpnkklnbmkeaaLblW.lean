/-
  Which labels are chosen, and what they weigh: contracts, of the program and of its model.
-/
import Derived.Test.YtpbpnkklnbmkeaaLblK
import Derived.Test.YtpbpnkklnbmkeaaRowH
import Derived.Test.YtpbpnkklnbmkeaaHasC
import Derived.Laws.AppendOwnNone
import Derived.Deep.AppendLies
namespace Go.Proofs.Ytpbpnkklnbmkeaa
open Go.RowKit Go.Maps

set_option maxRecDepth 100000 in
set_option maxHeartbeats 4000000 in
theorem chosen_any (a : Option Addr) (n c : Nat) (l : List LblD) (bs : List Nat) (ai : Option Addr) (ni ci : Nat) (ids : List Int) (bi : List Nat) (w : World) (hT : LblL w a l bs) (hn : l.length = n) (hm : n ≤ 1048576) (hI : Ints w ai ids bi) (hni : ids.length = ni) (hmi : ni ≤ 1048576) :
    Calls Try.prog 32 #[.slice a n c, .slice ai ni ci] w fun e w' => ((lblsP l ∧ ∃ va vc cs, e = .returned (.tuple #[.slice va (chQ l ids).length vc, .bool true]) ∧ LblL w' va (chQ l ids) cs) ∨ (¬ lblsP l ∧ e = .returned (.tuple #[.slice none 0 0, .bool false]))) ∧ Bel w w' := by
  obtain ⟨i0, hi0, hz0, hz1, hz2⟩ := info_parts infoLb
  have Hn : Hid (l.length = n) := hn
  have Hni : Hid (ids.length = ni) := hni
  have hmm := @run_makeMap Try.prog
  clear hn hni
  rcases Bool.eq_false_or_eq_true (bP (lblsP l)) with hp | hp
  · have HP : Hid (lblsP l) := bP_out hp
    have h5 : n ≤ 500 := by rw [← Hn.out]; exact HP.out.1
    go_enter Try.func32, Try.ntmps32
    go_wp2_with fail
    refine (labelsOk_any _ _ _ l bs _ hT Hn.out hm).mono ?_
    rintro e w1 ⟨rfl, hb1⟩
    rw [hp]
    have hS1 := SetAt.new w1
    obtain ⟨V, HV⟩ : ∃ V, Hid (V = w1.alloc (.map #[] 0)) := ⟨_, (rfl : w1.alloc (.map #[] 0) = _)⟩
    rw [← HV.out] at hS1
    have hbV : Bel w1 V := by rw [HV.out]; exact bel_alloc (Bel.refl _) _
    have hBV := bel_step hb1 hbV
    have hIV := hI.bel intE hBV
    have hnb : w1.heap.size ∉ bi := fun h => by have := hI.lt intE _ h; have := hb1.out.size; omega
    clear hI
    go_wp2_with fail
    rw [← HV.out]
    refine (add_any _ _ _ _ _ _ ids bi _ hS1 hIV Hni.out hmi (by decide) hnb).mono ?_
    rintro e w2 ⟨rfl, hS2, hg2⟩
    have hB2 : Bel w w2 := bel_grow hBV hg2 (fun k e => by injection e with e; have := hb1.out.size; omega)
    have HS2 : Hid (SetAt w2 w1.heap.size (0 + ni) (fun y => y ∈ ids)) := by
      have e : (fun y => y ∈ ids ∨ False) = fun y => y ∈ ids := by funext y; simp
      rw [e] at hS2; exact hS2
    have hT2 := hT.bel lblE hB2
    have G0 : Gr 6 (flatV LblP lblCs) 33 w2.heap.size w2 (.slice none 0 0) [] (fun _ => List.replicate 6 (.bool false)) (fun _ => []) := Gr.nil _ _ _ _ _
    clear hS1 hS2 hg2 hIV hbV hBV HV hT hmm
    go_wp2
    go_loopw [7, 19] (fun o i wr => ∃ (k : Nat) (R : Nat → List Value), k ≤ n ∧ i = .int .i64 k ∧ Gr 6 (flatV LblP lblCs) 33 w2.heap.size wr o (chQ (l.take k) ids) R (fun _ => []) ∧ Bel w2 wr) (fun _ i _ => n - (intOf i).toNat)
    case atStart => exact ⟨0, _, Nat.zero_le _, rfl, by simpa [chQ] using G0, Bel.refl _⟩
    case round =>
      clear G0
      obtain ⟨k, R, hk, rfl, hG, hBr⟩ := hrel
      obtain ⟨va, vc, rfl⟩ := own_shape hG.own
      by_cases hlt : k < n
      · have hkl : k < l.length := by rw [Hn.out]; exact hlt
        obtain ⟨b, off, f, rfl, hb, hx⟩ := (hT2.bel lblE hBr).out hkl
        obtain ⟨_, j0, j1, j2, j3, j4, j5, c0, c1, c2, c3, c4, c5⟩ := hx k hkl
        obtain ⟨d, Hd⟩ : ∃ d, Hid (d = l[k]) := ⟨_, (rfl : l[k] = _)⟩
        rw [← Hd.out] at c0 c1 c2 c3 c4 c5 j0 j1 j2 j3 j4 j5
        obtain ⟨U, HU⟩ : ∃ U, Hid (U = wr.alloc (.cells #[.int .i64 d.id, .int .i64 d.x, .int .i64 d.y, .int .i64 d.wd, .int .i64 d.ht, .int .i64 d.rk] 33)) := ⟨_, (rfl : wr.alloc (.cells #[.int .i64 d.id, .int .i64 d.x, .int .i64 d.y, .int .i64 d.wd, .int .i64 d.ht, .int .i64 d.rk] 33) = _)⟩
        have hbU : Bel wr U := by rw [HU.out]; exact bel_alloc (Bel.refl _) _
        have XU : Blk U wr.heap.size [.int .i64 d.id, .int .i64 d.x, .int .i64 d.y, .int .i64 d.wd, .int .i64 d.ht, .int .i64 d.rk] := by rw [HU.out]; exact Blk.new wr [.int .i64 d.id, .int .i64 d.x, .int .i64 d.y, .int .i64 d.wd, .int .i64 d.ht, .int .i64 d.rk] _
        have hSU := HS2.out.bel (bel_step hBr hbU)
        have hlt' : (k : Int) < (n : Int) := by omega
        have HP' : Hid (LblP d) := ⟨j0, j1, j2, j3, j4, j5⟩
        have HLn : Hid ((chQ (l.take k) ids).length ≤ k) := (Nat.le_trans (chQ_len _ _) (by simp; omega) : (chQ (l.take k) ids).length ≤ k)
        clear hx hT2 j1 j2 j3 j4 j5
        by_cases hi : d.id ∈ ids
        · have HC : Hid (chQ (l.take (k + 1)) ids = chQ (l.take k) ids ++ [d]) := by
            have := chQ_step (ids := ids) hkl (by rw [← Hd.out]; exact hi)
            rw [← Hd.out] at this; exact this
          have hbt : bP (d.id ∈ ids) = true := bP_true hi
          go_wp2_with fail
          rw [← HU.out]
          refine (has_any _ _ _ _ _ hSU j0).mono ?_
          rintro e w3 ⟨rfl, hb3⟩
          rw [hbt]
          have X3 := XU.bel hb3
          have e0 : w3.cell? ⟨wr.heap.size, 0, none⟩ = some (.int .i64 d.id) := X3.cell 0 (by simp)
          have e1 : w3.cell? ⟨wr.heap.size, 1, none⟩ = some (.int .i64 d.x) := X3.cell 1 (by simp)
          have e2 : w3.cell? ⟨wr.heap.size, 2, none⟩ = some (.int .i64 d.y) := X3.cell 2 (by simp)
          have e3 : w3.cell? ⟨wr.heap.size, 3, none⟩ = some (.int .i64 d.wd) := X3.cell 3 (by simp)
          have e4 : w3.cell? ⟨wr.heap.size, 4, none⟩ = some (.int .i64 d.ht) := X3.cell 4 (by simp)
          have e5 : w3.cell? ⟨wr.heap.size, 5, none⟩ = some (.int .i64 d.rk) := X3.cell 5 (by simp)
          have el := X3.lt
          have hB3 := bel_step hbU hb3
          have hG3 := hG.bel lblF.stays hB3
          have HG : Hid (Gr 6 (flatV LblP lblCs) 33 w2.heap.size w3 (.slice va (chQ (l.take k) ids).length vc) (chQ (l.take k) ids) R (fun _ => [])) := hG3
          have hown2 := World.ownsRow.alloc hG3.own (.cells #[.int .i64 d.id, .int .i64 d.x, .int .i64 d.y, .int .i64 d.wd, .int .i64 d.ht, .int .i64 d.rk] 33)
          have hBa := bel_alloc (bel_step hBr hB3) (.cells #[.int .i64 d.id, .int .i64 d.x, .int .i64 d.y, .int .i64 d.wd, .int .i64 d.ht, .int .i64 d.rk] 33)
          have hs3 : w2.heap.size ≤ w3.heap.size := (bel_step hBr hB3).out.size
          clear hG hG3 hSU XU X3 hb3 hB3 hbU c0 c1 c2 c3 c4 c5 hb
          go_wp2_with (first
            | (at_builtin; refine wpList_append_lies _ rfl _ _ 24 rfl w2.heap.size 33 i0 (.agg #[.int .i64 0, .int .i64 0, .int .i64 0, .int .i64 0, .int .i64 0, .int .i64 0]) 6 48 Try.underlying24 hi0 hz0 hz1 hz2 rfl (by decide) _ _ _ rfl hown2 ⟨w3.heap.size, 0, none⟩ 1 1 [.int .i64 d.id, .int .i64 d.x, .int .i64 d.y, .int .i64 d.wd, .int .i64 d.ht, .int .i64 d.rk] rfl rfl ?c1 ?c2 (by decide) ?c3 ?c4 ?c5 (w3.heap.size + 1) ?c6 ?_)
            | go_in)
          case c1 =>
            intro t u ht
            match t, ht with
            | 0, ht => simp at ht; subst ht; simp [Addr.add]
            | 1, ht => simp at ht; subst ht; simp [Addr.add]
            | 2, ht => simp at ht; subst ht; simp [Addr.add]
            | 3, ht => simp at ht; subst ht; simp [Addr.add]
            | 4, ht => simp at ht; subst ht; simp [Addr.add]
            | 5, ht => simp at ht; subst ht; simp [Addr.add]
          case c2 =>
            intro u hu
            simp at hu
            rcases hu with rfl | rfl | rfl | rfl | rfl | rfl <;> rfl
          case c3 => have := HLn.out; unfold maxLen; omega
          case c4 => have := HLn.out; omega
          case c5 => simp; omega
          case c6 => simp
          intro g cap w4 hown' hgrow hat _
          have HG3 : Hid (∃ R', Gr 6 (flatV LblP lblCs) 33 w2.heap.size w4 (.slice (some ⟨g, 0, none⟩) ((chQ (l.take k) ids).length + 1) cap) (chQ (l.take (k + 1)) ids) R' (fun _ => [])) := by
            have hat' : (Value.slice va (chQ (l.take k) ids).length vc).ownBlock = some g ∨ g = (w3.alloc (.cells #[.int .i64 d.id, .int .i64 d.x, .int .i64 d.y, .int .i64 d.wd, .int .i64 d.ht, .int .i64 d.rk] 33)).heap.size := by simpa using hat
            have := Gr.addF lblF (d := d) HG.out (bel_alloc (Bel.refl w3) (.cells #[.int .i64 d.id, .int .i64 d.x, .int .i64 d.y, .int .i64 d.wd, .int .i64 d.ht, .int .i64 d.rk] 33)) HP'.out hs3 hown' hgrow (hatF hat')
            rw [HC.out]
            exact this
          have hB4 : Bel w2 w4 := bel_grow hBa hgrow (fun t e => (hown2.lt t e).1)
          clear hown' hgrow hown2 hBa HG hat HC
          go_wp2
          go_roundw
          case rel =>
            obtain ⟨R', G'⟩ := HG3.out
            exact ⟨k + 1, R', by omega, by go_num, G', hB4⟩
          case measure => simp [intOf]; omega
        · have HC : Hid (chQ (l.take (k + 1)) ids = chQ (l.take k) ids) := chQ_skip (ids := ids) hkl (by rw [← Hd.out]; exact hi)
          have hbt : bP (d.id ∈ ids) = false := bP_false hi
          have HG : Hid (Gr 6 (flatV LblP lblCs) 33 w2.heap.size wr (.slice va (chQ (l.take k) ids).length vc) (chQ (l.take k) ids) R (fun _ => [])) := hG
          clear hG
          go_wp2_with fail
          rw [← HU.out]
          refine (has_any _ _ _ _ _ hSU j0).mono ?_
          rintro e w3 ⟨rfl, hb3⟩
          rw [hbt]
          have hB3 := bel_step hbU hb3
          have hG3 := HG.out.bel lblF.stays hB3
          have HG3 : Hid (Gr 6 (flatV LblP lblCs) 33 w2.heap.size w3 (.slice va (chQ (l.take k) ids).length vc) (chQ (l.take (k + 1)) ids) R (fun _ => [])) := by rw [HC.out]; exact hG3
          have hBB := bel_step hBr hB3
          clear HG hG3 hSU XU hb3 hB3 hbU c0 c1 c2 c3 c4 c5 hb HC
          go_wp2
          go_roundw
          case rel => exact ⟨k + 1, R, by omega, by go_num, HG3.out, hBB⟩
          case measure => simp [intOf]; omega
      · have e : k = n := by omega
        subst e
        have ht : l.take k = l := List.take_of_length_le (by rw [Hn.out]; exact Nat.le_refl _)
        rw [ht] at hG ⊢
        have HG : Hid (Gr 6 (flatV LblP lblCs) 33 w2.heap.size wr (.slice va (chQ l ids).length vc) (chQ l ids) R (fun _ => [])) := hG
        clear hG ht
        go_wp2
        go_ret2
        obtain ⟨a', c', cs, e, S', _⟩ := Gr.out lblF.stays HG.out
        injection e with e1 e2 e3
        exact ⟨.inl ⟨HP.out, va, vc, cs, rfl, by rw [e1]; exact S'⟩, bel_step hB2 hBr⟩
  · have HP : Hid (¬ lblsP l) := bP_not hp
    go_enter Try.func32, Try.ntmps32
    go_wp2_with fail
    refine (labelsOk_any _ _ _ l bs _ hT Hn.out hm).mono ?_
    rintro e w1 ⟨rfl, hb1⟩
    rw [hp]
    go_wp2
    go_ret2
    exact ⟨.inr ⟨HP.out, rfl⟩, hb1⟩
end Go.Proofs.Ytpbpnkklnbmkeaa
