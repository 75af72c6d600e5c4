/-
  Contract of the model's Edits: for every two texts.
-/
import Derived.Test.YtonedkibbdbgjaaEdtI
import Derived.Test.YtonedkibbdbgjaaAppI
import Derived.Deep.QuietTactic
namespace Go.Proofs.Ytonedkibbdbgjaa
open Go.RowKit Go.Maps

/-- What the table holds at a place. -/
def levI (A B : ByteArray) (i k : Nat) : Int := (levD (bts A) (bts B) i k : Nat)
/-- A row of the table, up to n. -/
def rowLv (A B : ByteArray) (i n : Nat) : List Int := (List.range n).map (levI A B i)
theorem rowLv_succ (A B : ByteArray) (i n : Nat) : rowLv A B i (n + 1) = rowLv A B i n ++ [levI A B i n] := by simp [rowLv, List.range_succ]
theorem rowLv_len (A B : ByteArray) (i n : Nat) : (rowLv A B i n).length = n := by simp [rowLv]
theorem rowLv_get (A B : ByteArray) (i n k : Nat) (h : k < (rowLv A B i n).length) : (rowLv A B i n)[k] = levI A B i k := by simp [rowLv]
theorem levI_bd (A B : ByteArray) (i k : Nat) : 0 ≤ levI A B i k ∧ levI A B i k ≤ i + k := by
  have := levD_le (bts A) (bts B) (i := i) (k := k)
  unfold levI; omega
theorem rowLv_in (A B : ByteArray) (i n : Nat) (hi : i ≤ 1000) (hn : n ≤ 1000) : ∀ y ∈ rowLv A B i n, In64 y := by
  intro y hy
  obtain ⟨k, hk, rfl⟩ := List.mem_map.1 hy
  have := levI_bd A B i k
  have := List.mem_range.1 hk
  unfold In64; omega
theorem bts_at {s : ByteArray} {i : Nat} (h : i < s.size) : (bts s)[i]'(by rw [bts_len]; exact h) = s[i] := rfl
theorem levI_step (A B : ByteArray) {i k : Nat} (hi : i < A.size) (hk : k < B.size) :
    levI A B (i + 1) (k + 1) = min (min (levI A B i (k + 1) + 1) (levI A B (i + 1) k + 1)) (levI A B i k + if A[i] = B[k] then 0 else 1) := by
  unfold levI
  rw [levD_step _ _ (by rw [bts_len]; exact hi) (by rw [bts_len]; exact hk), bts_at hi, bts_at hk]
  split <;> omega
theorem levI_row (A B : ByteArray) {k : Nat} (h : k ≤ B.size) : levI A B 0 k = k := by unfold levI; rw [levD_row _ _ (by rw [bts_len]; exact h)]
theorem levI_col (A B : ByteArray) {i : Nat} (h : i ≤ A.size) : levI A B i 0 = i := by unfold levI; rw [levD_col _ _ (by rw [bts_len]; exact h)]
theorem edQ_eq {A B : ByteArray} (h1 : ¬ 40 < A.size) (h2 : ¬ 40 < B.size) : edQ A B = min (levI A B A.size B.size) 3 := by
  unfold edQ levI; rw [if_neg (by omega), ← bts_len, ← bts_len, levD_all]

set_option maxRecDepth 100000 in
set_option maxHeartbeats 8000000 in
theorem specEdits_any (A B : ByteArray) (w : World) (hA : A.size ≤ maxLen) (hB : B.size ≤ maxLen) :
    Calls Try.prog 6 #[.string A, .string B] w fun e w' => e = .returned (.int .i64 (edQ A B)) ∧ Bel w w' := by
  unfold maxLen at hA hB
  by_cases h1 : 40 < A.size
  · have hv : edQ A B = 3 := if_pos (Or.inl h1)
    rw [hv]
    have h1' : (40 : Int) < A.size := by omega
    go_enter Try.func6, Try.ntmps6
    go_wp2_with fail
    go_ret
    exact ⟨rfl, Bel.refl _⟩
  by_cases h2 : 40 < B.size
  · have hv : edQ A B = 3 := if_pos (Or.inr h2)
    rw [hv]
    have h1' : ¬ (40 : Int) < A.size := by omega
    have h2' : (40 : Int) < B.size := by omega
    go_enter Try.func6, Try.ntmps6
    go_wp2_with fail
    go_ret
    exact ⟨rfl, Bel.refl _⟩
  have hv := edQ_eq h1 h2
  rw [hv]
  have h1' : ¬ (40 : Int) < A.size := by omega
  have h2' : ¬ (40 : Int) < B.size := by omega
  have hA40 : A.size ≤ 40 := by omega
  have hB40 : B.size ≤ 40 := by omega
  clear hv hA hB h1 h2
  obtain ⟨i0, hi0, hz0, hz1, hz2⟩ := info_parts infoI
  obtain ⟨W, HW⟩ : ∃ W, Hid (W = w.alloc (.cells #[] 2)) := ⟨_, (rfl : w.alloc (.cells #[] 2) = _)⟩
  have hBW : Bel w W := by rw [HW.out]; exact bel_alloc (Bel.refl _) _
  have O0 : OwnI w.heap.size W (.slice (some ⟨w.heap.size, 0, none⟩) 0 0) (rowLv A B 0 0) := by rw [HW.out]; exact World.ownsRow_lit w #[] 0 (Nat.le_refl _) (Nat.zero_le _) rfl
  go_enter Try.func6, Try.ntmps6
  go_wp2_with fail
  rw [← HW.out]
  go_loopw [5, 6] (fun o i wr => ∃ k : Nat, k ≤ B.size + 1 ∧ i = .int .i64 k ∧ OwnI w.heap.size wr o (rowLv A B 0 k) ∧ Bel w wr) (fun _ i _ => B.size + 1 - (intOf i).toNat)
  case atStart => exact ⟨0, Nat.zero_le _, rfl, O0, hBW⟩
  case round =>
    clear O0 hBW HW
    obtain ⟨k, hk, rfl, hown, hBr⟩ := hrel
    obtain ⟨va, vc, rfl⟩ := own_shape hown
    by_cases hlt : k ≤ B.size
    · have hlt' : (k : Int) ≤ (B.size : Int) := by omega
      have HE : Hid (rowLv A B 0 (k + 1) = rowLv A B 0 k ++ [(k : Int)]) := by rw [rowLv_succ, levI_row A B hlt]; exact rfl
      have HL : Hid ((rowLv A B 0 k).length = k) := rowLv_len A B 0 k
      have hown2 := World.ownsRow.alloc hown (.cells #[.int .i64 (k : Int)] 2)
      have hBa := bel_alloc hBr (.cells #[.int .i64 (k : Int)] 2)
      have hsz := hBr.out.size
      clear hown
      go_wp2_with (first
        | (at_builtin; refine wpList_append_own _ rfl _ _ 33 rfl w.heap.size 2 i0 (.int .i64 0) 1 8 Try.underlying33 hi0 hz0 hz1 hz2 rfl (by decide) _ _ _ rfl hown2 ⟨wr.heap.size, 0, none⟩ 1 1 [.int .i64 (k : Int)] rfl rfl ?c1 ?c2 ?c3 ?c4 ?c5 ?_)
        | go_in)
      case c1 =>
        intro j u hj
        match j, hj with
        | 0, hj => simp at hj; subst hj; simp [Addr.add]
      case c2 =>
        intro u hu
        simp at hu
        rcases hu with rfl
        rfl
      case c3 => have := HL.out; unfold maxLen; omega
      case c4 => have := HL.out; omega
      case c5 => have := HL.out; simp; omega
      intro v' w3 hown' hgrow _
      have HO3 : Hid (OwnI w.heap.size w3 v' (rowLv A B 0 (k + 1))) := by rw [HE.out]; exact own_add hown'
      have hB3 : Bel w w3 := bel_grow hBa hgrow (fun j e => (hown2.lt j e).1)
      clear hown' hgrow hown2 hBa
      go_wp2
      go_roundw
      case rel => exact ⟨k + 1, by omega, by go_num, HO3.out, hB3⟩
      case measure => simp [intOf]; omega
    · have hlt' : ¬ (k : Int) ≤ (B.size : Int) := by omega
      obtain rfl : k = B.size + 1 := by omega
      have HO : Hid (OwnI w.heap.size wr (.slice va (rowLv A B 0 (B.size + 1)).length vc) (rowLv A B 0 (B.size + 1))) := hown
      clear hown
      go_wp2
      go_loopw [5, 7] (fun o i wr => ∃ k : Nat, k ≤ A.size ∧ i = .int .i64 ((k : Int) + 1) ∧ OwnI w.heap.size wr o (rowLv A B k (B.size + 1)) ∧ Bel w wr) (fun _ i _ => A.size + 1 - (intOf i).toNat)
      case atStart => exact ⟨0, Nat.zero_le _, by go_num, HO.out, hBr⟩
      case round =>
        clear HO hBr hlt' hlt hk
        obtain ⟨i, hi, rfl, hown, hB1⟩ := hrel
        have hbd := rowLv_in A B i (B.size + 1) (by omega) (by omega)
        obtain ⟨ra, rc, rbs, rfl, hI, hlo, _⟩ := own_ints hown hbd
        obtain ⟨rb, ro, rf, rfl, hrb, hrx⟩ := hI.out (k := 0) (by rw [rowLv_len]; omega)
        have HR : Hid (∀ k, k ≤ B.size → wr.cell? ⟨rb, ro + k, none⟩ = some (.int .i64 (levI A B i k))) := by
          intro k hk
          have h := (hrx k (by rw [rowLv_len]; omega)).2.2
          rw [rowLv_get, Nat.mul_one] at h
          exact h
        have HL : Hid ((rowLv A B i (B.size + 1)).length = B.size + 1) := rowLv_len _ _ _ _
        rw [HL.out]
        by_cases hia : i < A.size
        · have hia' : (i : Int) + 1 ≤ (A.size : Int) := by omega
          have hsub : (i : Int) + 1 - 1 = (i : Int) := by omega
          have hiA : (i : Int) < (A.size : Int) := by omega
          clear hrx hI hown hlo hbd
          obtain ⟨V, HV⟩ : ∃ V : World, V = wr := ⟨wr, rfl⟩
          subst HV
          obtain ⟨W1, HW1⟩ : ∃ W, Hid (W = V.alloc (.cells #[.int .i64 ((i : Int) + 1)] 2)) := ⟨_, (rfl : V.alloc (.cells #[.int .i64 ((i : Int) + 1)] 2) = _)⟩
          have hBV : Bel V W1 := by rw [HW1.out]; exact bel_alloc (Bel.refl _) _
          have ON : OwnI V.heap.size W1 (.slice (some ⟨V.heap.size, 0, none⟩) 1 1) (rowLv A B (i + 1) 1) := by
            have e : rowLv A B (i + 1) 1 = [((i : Int) + 1)] := by
              show [levI A B (i + 1) 0] = _
              rw [levI_col A B (by omega)]; rfl
            rw [HW1.out, e]
            exact World.ownsRow_lit V #[.int .i64 ((i : Int) + 1)] 1 (Nat.le_refl _) (by unfold maxLen; omega) rfl
          go_wp2_with fail
          rw [← HW1.out]
          go_loopw [8, 9] (fun o c wr => ∃ k : Nat, k ≤ B.size ∧ c = .int .i64 ((k : Int) + 1) ∧ OwnI V.heap.size wr o (rowLv A B (i + 1) (k + 1)) ∧ Bel V wr) (fun _ c _ => B.size + 1 - (intOf c).toNat)
          case atStart => exact ⟨0, Nat.zero_le _, by go_num, ON, hBV⟩
          case round =>
            clear ON hBV HW1
            obtain ⟨k, hk, rfl, hown, hB2⟩ := hrel
            have hbd := rowLv_in A B (i + 1) (k + 1) (by omega) (by omega)
            by_cases hkb : k < B.size
            · have hkb' : (k : Int) + 1 ≤ (B.size : Int) := by omega
              have hsubk : (k : Int) + 1 - 1 = (k : Int) := by omega
              have hkB : (k : Int) < (B.size : Int) := by omega
              have HSTEP := levI_step A B hia hkb
              have hd0 := levI_bd A B i k
              have hd1 := levI_bd A B i (k + 1)
              have hd2 := levI_bd A B (i + 1) k
              obtain ⟨d0, hD0⟩ : ∃ d, d = levI A B i k := ⟨_, rfl⟩
              obtain ⟨d1, hD1⟩ : ∃ d, d = levI A B i (k + 1) := ⟨_, rfl⟩
              obtain ⟨d2, hD2⟩ : ∃ d, d = levI A B (i + 1) k := ⟨_, rfl⟩
              have r0 := bel_cellM hB2 hrb (HR.out k (by omega))
              have r1 := bel_cellM hB2 hrb (HR.out (k + 1) (by omega))
              obtain ⟨na, nc, nbs, rfl, hNI, _, _⟩ := own_ints hown hbd
              obtain ⟨nb, no, nf, rfl, hnb, hnx⟩ := hNI.out (k := k) (by rw [rowLv_len]; omega)
              have n0 := (hnx k (by rw [rowLv_len]; omega)).2.2
              rw [rowLv_get, Nat.mul_one, ← hD2] at n0
              rw [← hD0] at r0 hd0
              rw [← hD1] at r1 hd1
              rw [← hD2] at hd2
              rw [← hD0, ← hD1, ← hD2] at HSTEP
              have HS : Hid (levI A B (i + 1) (k + 1) = min (min (d1 + 1) (d2 + 1)) (d0 + if A[i] = B[k] then 0 else 1)) := HSTEP
              have hin3 : k < (rowLv A B (i + 1) (k + 1)).length := by rw [rowLv_len]; omega
              have HLN : Hid ((rowLv A B (i + 1) (k + 1)).length = k + 1) := rowLv_len _ _ _ _
              have hin2 : (k : Int) < ((rowLv A B (i + 1) (k + 1)).length : Int) := by rw [rowLv_len]; omega
              have hrw0 : (k : Int) < ((B.size + 1 : Nat) : Int) := by omega
              have hrw1 : (k : Int) + 1 < ((B.size + 1 : Nat) : Int) := by omega
              have HO : Hid (OwnI V.heap.size wr (.slice (some ⟨nb, no, none⟩) (rowLv A B (i + 1) (k + 1)).length nc) (rowLv A B (i + 1) (k + 1))) := hown
              have hb0 : 0 ≤ d0 ∧ d0 ≤ 80 := by omega
              have hb1 : 0 ≤ d1 ∧ d1 ≤ 81 := by omega
              have hb2 : 0 ≤ d2 ∧ d2 ≤ 81 := by omega
              clear hnx hNI hown hd0 hd1 hd2 hD0 hD1 hD2 HSTEP hbd
              by_cases heq : A[i] = B[k]
              · have hbeq : (A[i].toNat : Int) = (B[k].toNat : Int) := by rw [heq]
                by_cases hc1 : d1 + 1 < d0
                · by_cases hc2 : d2 + 1 < d1 + 1
                  · have HE : Hid (rowLv A B (i + 1) (k + 2) = rowLv A B (i + 1) (k + 1) ++ [d2 + 1]) := by
                      have e : levI A B (i + 1) (k + 1) = d2 + 1 := by rw [HS.out, if_pos heq]; omega
                      rw [rowLv_succ, e]; exact rfl
                    go_wp2_with fail
                    go_quiet (fail)
                    have hdr : Bel wr (wr.drewN nq) := bel_drewN (Bel.refl _) _
                    have q0 := bel_cellM hdr (bel_lt hB2 hrb) r0
                    have q1 := bel_cellM hdr (bel_lt hB2 hrb) r1
                    have qn := bel_cellM hdr hnb n0
                    have HOq := own_bel HO.out hdr
                    have hBq := bel_step hB2 hdr
                    clear r0 r1 n0 HO hB2 hdr
                    generalize wr.drewN nq = wq at q0 q1 qn HOq hBq ⊢
                    have hown2 := World.ownsRow.alloc HOq (.cells #[.int .i64 (d2 + 1)] 2)
                    have hBa := bel_alloc hBq (.cells #[.int .i64 (d2 + 1)] 2)
                    have hsz := hBq.out.size
                    clear HOq
                    go_wp2_with (first
                      | (at_builtin; refine wpList_append_own _ rfl _ _ 33 rfl V.heap.size 2 i0 (.int .i64 0) 1 8 Try.underlying33 hi0 hz0 hz1 hz2 rfl (by decide) _ _ _ rfl hown2 ⟨wq.heap.size, 0, none⟩ 1 1 [.int .i64 (d2 + 1)] rfl rfl ?c1 ?c2 ?c3 ?c4 ?c5 ?_)
                      | go_in)
                    case c1 =>
                      intro j u hj
                      match j, hj with
                      | 0, hj => simp at hj; subst hj; simp [Addr.add]
                    case c2 =>
                      intro u hu
                      simp at hu
                      rcases hu with rfl
                      rfl
                    case c3 => have := HLN.out; unfold maxLen; omega
                    case c4 => have := HLN.out; omega
                    case c5 => have := HLN.out; simp; omega
                    intro v' w3 hown' hgrow _
                    have HO3 : Hid (OwnI V.heap.size w3 v' (rowLv A B (i + 1) (k + 2))) := by rw [HE.out]; exact own_add hown'
                    have hB3 : Bel V w3 := bel_grow hBa hgrow (fun j e => (hown2.lt j e).1)
                    clear hown' hgrow hown2 hBa
                    go_wp2
                    go_roundw
                    case rel => exact ⟨k + 1, by omega, by go_num, HO3.out, hB3⟩
                    case measure => simp [intOf]; omega
                  · have HE : Hid (rowLv A B (i + 1) (k + 2) = rowLv A B (i + 1) (k + 1) ++ [d1 + 1]) := by
                      have e : levI A B (i + 1) (k + 1) = d1 + 1 := by rw [HS.out, if_pos heq]; omega
                      rw [rowLv_succ, e]; exact rfl
                    go_wp2_with fail
                    go_quiet (fail)
                    have hdr : Bel wr (wr.drewN nq) := bel_drewN (Bel.refl _) _
                    have q0 := bel_cellM hdr (bel_lt hB2 hrb) r0
                    have q1 := bel_cellM hdr (bel_lt hB2 hrb) r1
                    have qn := bel_cellM hdr hnb n0
                    have HOq := own_bel HO.out hdr
                    have hBq := bel_step hB2 hdr
                    clear r0 r1 n0 HO hB2 hdr
                    generalize wr.drewN nq = wq at q0 q1 qn HOq hBq ⊢
                    have hown2 := World.ownsRow.alloc HOq (.cells #[.int .i64 (d1 + 1)] 2)
                    have hBa := bel_alloc hBq (.cells #[.int .i64 (d1 + 1)] 2)
                    have hsz := hBq.out.size
                    clear HOq
                    go_wp2_with (first
                      | (at_builtin; refine wpList_append_own _ rfl _ _ 33 rfl V.heap.size 2 i0 (.int .i64 0) 1 8 Try.underlying33 hi0 hz0 hz1 hz2 rfl (by decide) _ _ _ rfl hown2 ⟨wq.heap.size, 0, none⟩ 1 1 [.int .i64 (d1 + 1)] rfl rfl ?c1 ?c2 ?c3 ?c4 ?c5 ?_)
                      | go_in)
                    case c1 =>
                      intro j u hj
                      match j, hj with
                      | 0, hj => simp at hj; subst hj; simp [Addr.add]
                    case c2 =>
                      intro u hu
                      simp at hu
                      rcases hu with rfl
                      rfl
                    case c3 => have := HLN.out; unfold maxLen; omega
                    case c4 => have := HLN.out; omega
                    case c5 => have := HLN.out; simp; omega
                    intro v' w3 hown' hgrow _
                    have HO3 : Hid (OwnI V.heap.size w3 v' (rowLv A B (i + 1) (k + 2))) := by rw [HE.out]; exact own_add hown'
                    have hB3 : Bel V w3 := bel_grow hBa hgrow (fun j e => (hown2.lt j e).1)
                    clear hown' hgrow hown2 hBa
                    go_wp2
                    go_roundw
                    case rel => exact ⟨k + 1, by omega, by go_num, HO3.out, hB3⟩
                    case measure => simp [intOf]; omega
                · by_cases hc2 : d2 + 1 < d0
                  · have HE : Hid (rowLv A B (i + 1) (k + 2) = rowLv A B (i + 1) (k + 1) ++ [d2 + 1]) := by
                      have e : levI A B (i + 1) (k + 1) = d2 + 1 := by rw [HS.out, if_pos heq]; omega
                      rw [rowLv_succ, e]; exact rfl
                    go_wp2_with fail
                    go_quiet (fail)
                    have hdr : Bel wr (wr.drewN nq) := bel_drewN (Bel.refl _) _
                    have q0 := bel_cellM hdr (bel_lt hB2 hrb) r0
                    have q1 := bel_cellM hdr (bel_lt hB2 hrb) r1
                    have qn := bel_cellM hdr hnb n0
                    have HOq := own_bel HO.out hdr
                    have hBq := bel_step hB2 hdr
                    clear r0 r1 n0 HO hB2 hdr
                    generalize wr.drewN nq = wq at q0 q1 qn HOq hBq ⊢
                    have hown2 := World.ownsRow.alloc HOq (.cells #[.int .i64 (d2 + 1)] 2)
                    have hBa := bel_alloc hBq (.cells #[.int .i64 (d2 + 1)] 2)
                    have hsz := hBq.out.size
                    clear HOq
                    go_wp2_with (first
                      | (at_builtin; refine wpList_append_own _ rfl _ _ 33 rfl V.heap.size 2 i0 (.int .i64 0) 1 8 Try.underlying33 hi0 hz0 hz1 hz2 rfl (by decide) _ _ _ rfl hown2 ⟨wq.heap.size, 0, none⟩ 1 1 [.int .i64 (d2 + 1)] rfl rfl ?c1 ?c2 ?c3 ?c4 ?c5 ?_)
                      | go_in)
                    case c1 =>
                      intro j u hj
                      match j, hj with
                      | 0, hj => simp at hj; subst hj; simp [Addr.add]
                    case c2 =>
                      intro u hu
                      simp at hu
                      rcases hu with rfl
                      rfl
                    case c3 => have := HLN.out; unfold maxLen; omega
                    case c4 => have := HLN.out; omega
                    case c5 => have := HLN.out; simp; omega
                    intro v' w3 hown' hgrow _
                    have HO3 : Hid (OwnI V.heap.size w3 v' (rowLv A B (i + 1) (k + 2))) := by rw [HE.out]; exact own_add hown'
                    have hB3 : Bel V w3 := bel_grow hBa hgrow (fun j e => (hown2.lt j e).1)
                    clear hown' hgrow hown2 hBa
                    go_wp2
                    go_roundw
                    case rel => exact ⟨k + 1, by omega, by go_num, HO3.out, hB3⟩
                    case measure => simp [intOf]; omega
                  · have HE : Hid (rowLv A B (i + 1) (k + 2) = rowLv A B (i + 1) (k + 1) ++ [d0]) := by
                      have e : levI A B (i + 1) (k + 1) = d0 := by rw [HS.out, if_pos heq]; omega
                      rw [rowLv_succ, e]; exact rfl
                    go_wp2_with fail
                    go_quiet (fail)
                    have hdr : Bel wr (wr.drewN nq) := bel_drewN (Bel.refl _) _
                    have q0 := bel_cellM hdr (bel_lt hB2 hrb) r0
                    have q1 := bel_cellM hdr (bel_lt hB2 hrb) r1
                    have qn := bel_cellM hdr hnb n0
                    have HOq := own_bel HO.out hdr
                    have hBq := bel_step hB2 hdr
                    clear r0 r1 n0 HO hB2 hdr
                    generalize wr.drewN nq = wq at q0 q1 qn HOq hBq ⊢
                    have hown2 := World.ownsRow.alloc HOq (.cells #[.int .i64 (d0)] 2)
                    have hBa := bel_alloc hBq (.cells #[.int .i64 (d0)] 2)
                    have hsz := hBq.out.size
                    clear HOq
                    go_wp2_with (first
                      | (at_builtin; refine wpList_append_own _ rfl _ _ 33 rfl V.heap.size 2 i0 (.int .i64 0) 1 8 Try.underlying33 hi0 hz0 hz1 hz2 rfl (by decide) _ _ _ rfl hown2 ⟨wq.heap.size, 0, none⟩ 1 1 [.int .i64 (d0)] rfl rfl ?c1 ?c2 ?c3 ?c4 ?c5 ?_)
                      | go_in)
                    case c1 =>
                      intro j u hj
                      match j, hj with
                      | 0, hj => simp at hj; subst hj; simp [Addr.add]
                    case c2 =>
                      intro u hu
                      simp at hu
                      rcases hu with rfl
                      rfl
                    case c3 => have := HLN.out; unfold maxLen; omega
                    case c4 => have := HLN.out; omega
                    case c5 => have := HLN.out; simp; omega
                    intro v' w3 hown' hgrow _
                    have HO3 : Hid (OwnI V.heap.size w3 v' (rowLv A B (i + 1) (k + 2))) := by rw [HE.out]; exact own_add hown'
                    have hB3 : Bel V w3 := bel_grow hBa hgrow (fun j e => (hown2.lt j e).1)
                    clear hown' hgrow hown2 hBa
                    go_wp2
                    go_roundw
                    case rel => exact ⟨k + 1, by omega, by go_num, HO3.out, hB3⟩
                    case measure => simp [intOf]; omega
              · have hbeq : ((A[i].toNat : Int) == (B[k].toNat : Int)) = false := by rw [beq_eq_false_iff_ne]; intro h; exact heq (UInt8.toNat_inj.1 (by omega))
                by_cases hc1 : d1 + 1 < d0 + 1
                · by_cases hc2 : d2 + 1 < d1 + 1
                  · have HE : Hid (rowLv A B (i + 1) (k + 2) = rowLv A B (i + 1) (k + 1) ++ [d2 + 1]) := by
                      have e : levI A B (i + 1) (k + 1) = d2 + 1 := by rw [HS.out, if_neg heq]; omega
                      rw [rowLv_succ, e]; exact rfl
                    go_wp2_with fail
                    go_quiet (fail)
                    have hdr : Bel wr (wr.drewN nq) := bel_drewN (Bel.refl _) _
                    have q0 := bel_cellM hdr (bel_lt hB2 hrb) r0
                    have q1 := bel_cellM hdr (bel_lt hB2 hrb) r1
                    have qn := bel_cellM hdr hnb n0
                    have HOq := own_bel HO.out hdr
                    have hBq := bel_step hB2 hdr
                    clear r0 r1 n0 HO hB2 hdr
                    generalize wr.drewN nq = wq at q0 q1 qn HOq hBq ⊢
                    have hown2 := World.ownsRow.alloc HOq (.cells #[.int .i64 (d2 + 1)] 2)
                    have hBa := bel_alloc hBq (.cells #[.int .i64 (d2 + 1)] 2)
                    have hsz := hBq.out.size
                    clear HOq
                    go_wp2_with (first
                      | (at_builtin; refine wpList_append_own _ rfl _ _ 33 rfl V.heap.size 2 i0 (.int .i64 0) 1 8 Try.underlying33 hi0 hz0 hz1 hz2 rfl (by decide) _ _ _ rfl hown2 ⟨wq.heap.size, 0, none⟩ 1 1 [.int .i64 (d2 + 1)] rfl rfl ?c1 ?c2 ?c3 ?c4 ?c5 ?_)
                      | go_in)
                    case c1 =>
                      intro j u hj
                      match j, hj with
                      | 0, hj => simp at hj; subst hj; simp [Addr.add]
                    case c2 =>
                      intro u hu
                      simp at hu
                      rcases hu with rfl
                      rfl
                    case c3 => have := HLN.out; unfold maxLen; omega
                    case c4 => have := HLN.out; omega
                    case c5 => have := HLN.out; simp; omega
                    intro v' w3 hown' hgrow _
                    have HO3 : Hid (OwnI V.heap.size w3 v' (rowLv A B (i + 1) (k + 2))) := by rw [HE.out]; exact own_add hown'
                    have hB3 : Bel V w3 := bel_grow hBa hgrow (fun j e => (hown2.lt j e).1)
                    clear hown' hgrow hown2 hBa
                    go_wp2
                    go_roundw
                    case rel => exact ⟨k + 1, by omega, by go_num, HO3.out, hB3⟩
                    case measure => simp [intOf]; omega
                  · have HE : Hid (rowLv A B (i + 1) (k + 2) = rowLv A B (i + 1) (k + 1) ++ [d1 + 1]) := by
                      have e : levI A B (i + 1) (k + 1) = d1 + 1 := by rw [HS.out, if_neg heq]; omega
                      rw [rowLv_succ, e]; exact rfl
                    go_wp2_with fail
                    go_quiet (fail)
                    have hdr : Bel wr (wr.drewN nq) := bel_drewN (Bel.refl _) _
                    have q0 := bel_cellM hdr (bel_lt hB2 hrb) r0
                    have q1 := bel_cellM hdr (bel_lt hB2 hrb) r1
                    have qn := bel_cellM hdr hnb n0
                    have HOq := own_bel HO.out hdr
                    have hBq := bel_step hB2 hdr
                    clear r0 r1 n0 HO hB2 hdr
                    generalize wr.drewN nq = wq at q0 q1 qn HOq hBq ⊢
                    have hown2 := World.ownsRow.alloc HOq (.cells #[.int .i64 (d1 + 1)] 2)
                    have hBa := bel_alloc hBq (.cells #[.int .i64 (d1 + 1)] 2)
                    have hsz := hBq.out.size
                    clear HOq
                    go_wp2_with (first
                      | (at_builtin; refine wpList_append_own _ rfl _ _ 33 rfl V.heap.size 2 i0 (.int .i64 0) 1 8 Try.underlying33 hi0 hz0 hz1 hz2 rfl (by decide) _ _ _ rfl hown2 ⟨wq.heap.size, 0, none⟩ 1 1 [.int .i64 (d1 + 1)] rfl rfl ?c1 ?c2 ?c3 ?c4 ?c5 ?_)
                      | go_in)
                    case c1 =>
                      intro j u hj
                      match j, hj with
                      | 0, hj => simp at hj; subst hj; simp [Addr.add]
                    case c2 =>
                      intro u hu
                      simp at hu
                      rcases hu with rfl
                      rfl
                    case c3 => have := HLN.out; unfold maxLen; omega
                    case c4 => have := HLN.out; omega
                    case c5 => have := HLN.out; simp; omega
                    intro v' w3 hown' hgrow _
                    have HO3 : Hid (OwnI V.heap.size w3 v' (rowLv A B (i + 1) (k + 2))) := by rw [HE.out]; exact own_add hown'
                    have hB3 : Bel V w3 := bel_grow hBa hgrow (fun j e => (hown2.lt j e).1)
                    clear hown' hgrow hown2 hBa
                    go_wp2
                    go_roundw
                    case rel => exact ⟨k + 1, by omega, by go_num, HO3.out, hB3⟩
                    case measure => simp [intOf]; omega
                · by_cases hc2 : d2 + 1 < d0 + 1
                  · have HE : Hid (rowLv A B (i + 1) (k + 2) = rowLv A B (i + 1) (k + 1) ++ [d2 + 1]) := by
                      have e : levI A B (i + 1) (k + 1) = d2 + 1 := by rw [HS.out, if_neg heq]; omega
                      rw [rowLv_succ, e]; exact rfl
                    go_wp2_with fail
                    go_quiet (fail)
                    have hdr : Bel wr (wr.drewN nq) := bel_drewN (Bel.refl _) _
                    have q0 := bel_cellM hdr (bel_lt hB2 hrb) r0
                    have q1 := bel_cellM hdr (bel_lt hB2 hrb) r1
                    have qn := bel_cellM hdr hnb n0
                    have HOq := own_bel HO.out hdr
                    have hBq := bel_step hB2 hdr
                    clear r0 r1 n0 HO hB2 hdr
                    generalize wr.drewN nq = wq at q0 q1 qn HOq hBq ⊢
                    have hown2 := World.ownsRow.alloc HOq (.cells #[.int .i64 (d2 + 1)] 2)
                    have hBa := bel_alloc hBq (.cells #[.int .i64 (d2 + 1)] 2)
                    have hsz := hBq.out.size
                    clear HOq
                    go_wp2_with (first
                      | (at_builtin; refine wpList_append_own _ rfl _ _ 33 rfl V.heap.size 2 i0 (.int .i64 0) 1 8 Try.underlying33 hi0 hz0 hz1 hz2 rfl (by decide) _ _ _ rfl hown2 ⟨wq.heap.size, 0, none⟩ 1 1 [.int .i64 (d2 + 1)] rfl rfl ?c1 ?c2 ?c3 ?c4 ?c5 ?_)
                      | go_in)
                    case c1 =>
                      intro j u hj
                      match j, hj with
                      | 0, hj => simp at hj; subst hj; simp [Addr.add]
                    case c2 =>
                      intro u hu
                      simp at hu
                      rcases hu with rfl
                      rfl
                    case c3 => have := HLN.out; unfold maxLen; omega
                    case c4 => have := HLN.out; omega
                    case c5 => have := HLN.out; simp; omega
                    intro v' w3 hown' hgrow _
                    have HO3 : Hid (OwnI V.heap.size w3 v' (rowLv A B (i + 1) (k + 2))) := by rw [HE.out]; exact own_add hown'
                    have hB3 : Bel V w3 := bel_grow hBa hgrow (fun j e => (hown2.lt j e).1)
                    clear hown' hgrow hown2 hBa
                    go_wp2
                    go_roundw
                    case rel => exact ⟨k + 1, by omega, by go_num, HO3.out, hB3⟩
                    case measure => simp [intOf]; omega
                  · have HE : Hid (rowLv A B (i + 1) (k + 2) = rowLv A B (i + 1) (k + 1) ++ [d0 + 1]) := by
                      have e : levI A B (i + 1) (k + 1) = d0 + 1 := by rw [HS.out, if_neg heq]; omega
                      rw [rowLv_succ, e]; exact rfl
                    go_wp2_with fail
                    go_quiet (fail)
                    have hdr : Bel wr (wr.drewN nq) := bel_drewN (Bel.refl _) _
                    have q0 := bel_cellM hdr (bel_lt hB2 hrb) r0
                    have q1 := bel_cellM hdr (bel_lt hB2 hrb) r1
                    have qn := bel_cellM hdr hnb n0
                    have HOq := own_bel HO.out hdr
                    have hBq := bel_step hB2 hdr
                    clear r0 r1 n0 HO hB2 hdr
                    generalize wr.drewN nq = wq at q0 q1 qn HOq hBq ⊢
                    have hown2 := World.ownsRow.alloc HOq (.cells #[.int .i64 (d0 + 1)] 2)
                    have hBa := bel_alloc hBq (.cells #[.int .i64 (d0 + 1)] 2)
                    have hsz := hBq.out.size
                    clear HOq
                    go_wp2_with (first
                      | (at_builtin; refine wpList_append_own _ rfl _ _ 33 rfl V.heap.size 2 i0 (.int .i64 0) 1 8 Try.underlying33 hi0 hz0 hz1 hz2 rfl (by decide) _ _ _ rfl hown2 ⟨wq.heap.size, 0, none⟩ 1 1 [.int .i64 (d0 + 1)] rfl rfl ?c1 ?c2 ?c3 ?c4 ?c5 ?_)
                      | go_in)
                    case c1 =>
                      intro j u hj
                      match j, hj with
                      | 0, hj => simp at hj; subst hj; simp [Addr.add]
                    case c2 =>
                      intro u hu
                      simp at hu
                      rcases hu with rfl
                      rfl
                    case c3 => have := HLN.out; unfold maxLen; omega
                    case c4 => have := HLN.out; omega
                    case c5 => have := HLN.out; simp; omega
                    intro v' w3 hown' hgrow _
                    have HO3 : Hid (OwnI V.heap.size w3 v' (rowLv A B (i + 1) (k + 2))) := by rw [HE.out]; exact own_add hown'
                    have hB3 : Bel V w3 := bel_grow hBa hgrow (fun j e => (hown2.lt j e).1)
                    clear hown' hgrow hown2 hBa
                    go_wp2
                    go_roundw
                    case rel => exact ⟨k + 1, by omega, by go_num, HO3.out, hB3⟩
                    case measure => simp [intOf]; omega
            · have hkb' : ¬ (k : Int) + 1 ≤ (B.size : Int) := by omega
              obtain rfl : k = B.size := by omega
              obtain ⟨na, nc, rfl⟩ := own_shape hown
              have HO : Hid (OwnI w.heap.size wr (.slice na (rowLv A B (i + 1) (B.size + 1)).length nc) (rowLv A B (i + 1) (B.size + 1))) := own_base hown hB1.out.size
              have hBf := bel_step hB1 hB2
              clear hown
              go_wp2
              go_roundw
              case rel => exact ⟨i + 1, by omega, by go_num, HO.out, hBf⟩
              case measure => simp [intOf]; omega
        · have hia' : ¬ (i : Int) + 1 ≤ (A.size : Int) := by omega
          obtain rfl : i = A.size := by omega
          have hl := HR.out B.size (Nat.le_refl _)
          have hbz : (B.size : Int) < ((B.size + 1 : Nat) : Int) := by omega
          clear hrx hI hown hlo hbd
          by_cases h3 : 3 < levI A B A.size B.size
          · have HF : Hid (3 = min (levI A B A.size B.size) 3) := by have : (3 : Int) = min (levI A B A.size B.size) 3 := by omega
                                                                     exact this
            go_wp2
            go_ret
            exact ⟨ret_num HF.out, hB1⟩
          · have HF : Hid (levI A B A.size B.size = min (levI A B A.size B.size) 3) := by have : levI A B A.size B.size = min (levI A B A.size B.size) 3 := by omega
                                                                                          exact this
            go_wp2
            go_ret
            exact ⟨ret_num HF.out, hB1⟩
end Go.Proofs.Ytonedkibbdbgjaa

