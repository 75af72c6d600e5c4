/-
  Contract of the model's words: for every text.
-/
import Derived.Test.YtonedkibbdbgjaaWrdI
namespace Go.Proofs.Ytonedkibbdbgjaa
open Go.RowKit

/-- The bytes of a text, as cells. -/
def bytV (s : ByteArray) : List Value := (bts s).map fun b => .int .u8 (b.toNat : Int)
theorem bytV_len (s : ByteArray) : (bytV s).length = s.size := by unfold bytV; rw [List.length_map, bts_len]
theorem bytV_push (s : ByteArray) {n : Nat} (h : n < 256) : bytV (s.push (UInt8.ofNat n)) = bytV s ++ [.int .u8 (n : Int)] := by
  unfold bytV bts
  simp [Nat.mod_eq_of_lt h]
theorem fold_push (l : List UInt8) : ∀ r : ByteArray, (l.map fun b => (b.toNat : Int)).foldl (fun r n => r.push (UInt8.ofNat n.toNat)) r = ⟨r.data ++ l.toArray⟩ := by
  induction l with
  | nil => intro r; simp
  | cons x l ih =>
    intro r
    rw [List.map_cons, List.foldl_cons, ih]
    simp
theorem own_across {w w' : World} {B B' e e' q q' n n' : Nat} {v v' : Value} {xs xs' : List Value} (h : w.ownsRow B e q v n xs) (h' : w.ownsRow B' e' q' v' n' xs') (hne : e ≠ e') (hg : w.grownBy w' v'.ownBlock) : w'.ownsRow B e q v n xs := by
  obtain ⟨h1, h2⟩ := h
  refine ⟨h1, ?_⟩
  rcases h2 with h2 | ⟨g, cap, cur, e1, e2, e3, e4⟩
  · exact .inl h2
  · refine .inr ⟨g, cap, cur, e1, e2, ?_, e4⟩
    have hlt : g < w.heap.size := (Array.getElem?_eq_some_iff.1 e3).1
    rw [hg.block g hlt ?_]
    · exact e3
    · obtain ⟨_, h2'⟩ := h'
      rcases h2' with ⟨rfl, _⟩ | ⟨g', cap', cur', rfl, _, e3', _⟩
      · intro hh; simp [Value.ownBlock] at hh
      · intro hh
        simp only [Value.ownBlock, Option.some.injEq] at hh
        rw [← hh, e3] at e3'
        injection e3' with hc
        injection hc with _ he
        exact hne he
theorem addr_j0 (b j : Nat) : (⟨b, 0, none⟩ : Addr).add j = ⟨b, j, none⟩ := by unfold Addr.add; split <;> simp_all
theorem conv_bytes {w : World} {base : Nat} {va : Option Addr} {n vc : Nat} {wd : ByteArray} (h : w.ownsRow base 5 1 (.slice va n vc) n (bytV wd)) (hn : wd.size = n) (h0 : ¬ n = 0) :
    (convert 29 9 (.slice va n vc)).run Try.prog w = .ok (.string wd) w := by
  rcases h.2 with ⟨_, hz⟩ | ⟨g, cap, cur, e, _, _, _⟩
  · exact absurd hz h0
  · injection e with e1 e2 e3
    subst e1
    have hc := fun i => World.ownsRow.cellAt h i
    rw [run_convert_bytes_string _ _ _ 5 _ _ _ Try.underlying29 Try.underlying5 Try.underlying9]
    rw [run_bytesToString _ _ _ _ ((bts wd).map fun b => (b.toNat : Int)), fold_push]
    · simp [bts]
    · rw [← hn, ← bts_len]
      have := run_loadCells_list (P := Try.prog) (w := w) ⟨g, 0, none⟩ (bytV wd) (fun j v hj => by
        have hjl : j < (bytV wd).length := (List.getElem?_eq_some_iff.1 hj).1
        rw [bytV_len] at hjl
        rw [addr_j0, hc j (by omega)]
        exact hj)
      rw [bytV_len, ← bts_len] at this
      rw [this]
      simp [bytV]
theorem infoB8 : (Try.prog.info? 5).map (fun i => (i.zero, i.size, i.bytes)) = some (some (.int .u8 0), 1, 1) := by kernel_rfl

theorem l16Word_any (W : ByteArray) (w : World) : Calls Try.prog 16 #[.string W] w fun e w' => e = .returned (.string (mnB W)) ∧ w' = w := by
  unfold mnB
  cases h1 : (W.toList == [115, 116])
  · cases h2 : (W.toList == [114, 100])
    · cases h3 : (W.toList == [108, 110])
      · cases h4 : (W.toList == [110])
        · cases h5 : (W.toList == [110, 116, 104])
          · cases h6 : (W.toList == [115]) <;> (
              go_enter Try.func16, Try.ntmps16
              go_wp2_with fail
              go_ret
              exact ⟨rfl, rfl⟩)
          · go_enter Try.func16, Try.ntmps16
            go_wp2_with fail
            go_ret
            exact ⟨rfl, rfl⟩
        · go_enter Try.func16, Try.ntmps16
          go_wp2_with fail
          go_ret
          exact ⟨rfl, rfl⟩
      · go_enter Try.func16, Try.ntmps16
        go_wp2_with fail
        go_ret
        exact ⟨rfl, rfl⟩
    · go_enter Try.func16, Try.ntmps16
      go_wp2_with fail
      go_ret
      exact ⟨rfl, rfl⟩
  · go_enter Try.func16, Try.ntmps16
    go_wp2_with fail
    go_ret
    exact ⟨rfl, rfl⟩
/-- What is read so far. -/
def stW (s : ByteArray) (k : Nat) : List ByteArray × ByteArray := wsL ((bts s ++ [0]).take k)
theorem stW_low {s : ByteArray} {k : Nat} (h : k < s.size) : stW s (k + 1) = wsS (stW s k) s[k] := by
  have hl : k < (bts s ++ [0]).length := by rw [List.length_append, bts_len]; omega
  unfold stW
  rw [take_one hl, wsL_snoc, List.getElem_append_left (by rw [bts_len]; exact h)]
  rfl
theorem stW_last (s : ByteArray) : stW s (s.size + 1) = clsW (stW s s.size) := by
  have hl : s.size < (bts s ++ [0]).length := by rw [List.length_append, bts_len]; simp
  have e : (bts s ++ [0])[s.size]'hl = 0 := by
    rw [List.getElem_append_right (by rw [bts_len]; exact Nat.le_refl _)]
    simp [bts_len]
  unfold stW
  rw [take_one hl, wsL_snoc, e, wsS_no (by decide)]
theorem stW_all {s : ByteArray} (h : ¬ 100 < s.size) : (stW s (s.size + 1)).1 = wdQ s := by
  unfold stW wdQ
  rw [if_neg h, List.take_of_length_le (by rw [List.length_append, bts_len]; exact Nat.le_refl _), wsL_end (bts s) (b := 0) (by decide)]
theorem stW_len (s : ByteArray) {k : Nat} : (stW s k).1.length + (stW s k).2.size ≤ k := by
  have h1 := wsL_len ((bts s ++ [0]).take k)
  rw [List.length_take] at h1
  unfold stW
  omega

set_option maxRecDepth 100000 in
set_option maxHeartbeats 8000000 in
theorem specWordsOf_any (s : ByteArray) (w : World) (hs : s.size ≤ maxLen) :
    Calls Try.prog 8 #[.string s] w fun e w' => ∃ v, e = .returned v ∧ OwnT w.heap.size w' v (wdQ s) ∧ Bel w w' := by
  unfold maxLen at hs
  obtain ⟨i0, hi0, hz0, hz1, hz2⟩ := info_parts infoT
  obtain ⟨i1, hi1, hy0, hy1, hy2⟩ := info_parts infoB8
  obtain ⟨W, HW⟩ : ∃ W, Hid (W = (w.alloc (.cells #[] 9)).alloc (.cells #[] 5)) := ⟨_, (rfl : (w.alloc (.cells #[] 9)).alloc (.cells #[] 5) = _)⟩
  have hBW : Bel w W := by rw [HW.out]; exact bel_alloc (bel_alloc (Bel.refl _) _) _
  have hsz1 : (w.alloc (.cells #[] 9)).heap.size = w.heap.size + 1 := by simp
  have O3 : OwnT w.heap.size W (.slice (some ⟨w.heap.size, 0, none⟩) 0 0) [] := by rw [HW.out]; exact World.ownsRow.alloc (World.ownsRow_lit w #[] 0 (Nat.le_refl _) (Nat.zero_le _) rfl) _
  have O4 : W.ownsRow w.heap.size 5 1 (.slice (some ⟨w.heap.size + 1, 0, none⟩) 0 0) 0 (bytV ⟨#[]⟩) := by rw [HW.out, ← hsz1]; exact World.ownsRow_lit (w.alloc (.cells #[] 9)) #[] 0 (by omega) (Nat.zero_le _) rfl
  by_cases h1 : 100 < s.size
  · have hv : wdQ s = [] := if_pos h1
    rw [hv]
    have h1' : ¬ (s.size : Int) ≤ 100 := by omega
    have h0' : (0 : Int) ≤ (s.size : Int) := by omega
    go_enter Try.func8, Try.ntmps8
    go_wp2_with fail
    rw [← HW.out]
    go_loopw [3, 4, 5] (fun o c i wr => o = .slice (some ⟨w.heap.size, 0, none⟩) 0 0 ∧ i = .int .i64 0 ∧ wr = W) (fun _ _ _ _ => 0)
    case atStart => exact ⟨rfl, rfl, rfl⟩
    case round =>
      obtain ⟨rfl, rfl, hq⟩ := hrel
      have hq := hq.symm
      subst hq
      go_wp2
      go_ret
      exact ⟨_, rfl, O3, hBW⟩
  have h1' : (s.size : Int) ≤ 100 := by omega
  have HV : Hid ((stW s (s.size + 1)).1 = wdQ s) := stW_all h1
  clear hs
  go_enter Try.func8, Try.ntmps8
  go_wp2_with fail
  rw [← HW.out]
  go_loopw [3, 4, 5] (fun o c i wr => ∃ k : Nat, k ≤ s.size + 1 ∧ i = .int .i64 k ∧ OwnT w.heap.size wr o (stW s k).1 ∧ wr.ownsRow w.heap.size 5 1 c (stW s k).2.size (bytV (stW s k).2) ∧ Bel w wr) (fun _ _ i _ => s.size + 1 - (intOf i).toNat)
  case atStart => exact ⟨0, Nat.zero_le _, rfl, O3, O4, hBW⟩
  case round =>
    clear O3 O4 hBW HW hsz1
    obtain ⟨k, hk, rfl, hO, hC, hB⟩ := hrel
    obtain ⟨oa, oc, rfl⟩ := own_shape hO
    obtain ⟨ca, cc, rfl⟩ := own_shape hC
    have hsl := stW_len s (k := k)
    by_cases hlast : k = s.size + 1
    · subst hlast
      have hk' : ¬ (s.size : Int) + 1 ≤ (s.size : Int) := by omega
      have HF : Hid (OwnT w.heap.size wr (.slice oa (stW s (s.size + 1)).1.length oc) (wdQ s)) := by
        rw [← HV.out]; exact hO
      clear hO hC
      go_wp2
      go_ret
      exact ⟨_, rfl, HF.out, hB⟩
    have hk' : (k : Int) ≤ (s.size : Int) := by omega
    obtain ⟨out, ho⟩ : ∃ x, (stW s k).1 = x := ⟨_, rfl⟩
    obtain ⟨wd, hw⟩ : ∃ x, (stW s k).2 = x := ⟨_, rfl⟩
    have hst : stW s k = (out, wd) := by rw [← ho, ← hw]
    rw [ho] at hO hsl ⊢
    rw [hw] at hC hsl ⊢
    clear ho hw
    have hsz := hB.out.size
    by_cases hke : k = s.size
    · have hke' : ¬ (k : Int) < (s.size : Int) := by omega
      have hnew : stW s (k + 1) = clsW (out, wd) := by subst hke; rw [stW_last, hst]
      clear hst
      by_cases hz : wd.size = 0
      · have hz' : ¬ (0 : Int) < (wd.size : Int) := by omega
        have HN : Hid (stW s (k + 1) = (out, wd)) := by rw [hnew]; exact clsW_no hz
        have HO : Hid (OwnT w.heap.size wr (.slice oa out.length oc) out) := hO
        have HC : Hid (wr.ownsRow w.heap.size 5 1 (.slice ca wd.size cc) wd.size (bytV wd)) := hC
        clear hnew hO hC
        go_wp2_with fail
        go_roundw
        case rel => exact ⟨k + 1, by omega, by go_num, by rw [HN.out]; exact HO.out, by rw [HN.out]; exact HC.out, hB⟩
        case measure => simp [intOf]; omega
      · have hz' : (0 : Int) < (wd.size : Int) := by omega
        have HN : Hid (stW s (k + 1) = (out ++ [mnB wd], ⟨#[]⟩)) := by rw [hnew]; exact clsW_yes hz
        have hcv := conv_bytes hC rfl hz
        have hX : (wr.alloc (.cells #[.string (mnB wd)] 9)).ownsRow w.heap.size 9 1 (.slice oa out.length oc) out.length (strsV out) := World.ownsRow.alloc hO _
        have hBa := bel_alloc hB (.cells #[.string (mnB wd)] 9)
        clear hnew hO hC
        go_wp2_with (first
          | (go_at_call 16; refine (l16Word_any _ _).mono ?_; rintro e w1 ⟨rfl, hq⟩; have hq := hq.symm; subst hq)
          | (at_builtin; refine wpList_append_own _ rfl _ _ 24 rfl w.heap.size 9 i0 (.string ⟨#[]⟩) 1 16 Try.underlying24 hi0 hz0 hz1 hz2 rfl (by decide) _ _ _ rfl hX ⟨wr.heap.size, 0, none⟩ 1 1 [.string (mnB wd)] rfl rfl ?d991 ?d992 ?d993 ?d994 ?d995 ?_)
          | go_in)
        case d991 =>
          intro j u hj
          match j, hj with
          | 0, hj => simp at hj; subst hj; simp [Addr.add]
        case d992 =>
          intro u hu
          simp at hu
          rcases hu with rfl
          rfl
        case d993 => unfold maxLen; omega
        case d994 => omega
        case d995 => simp; omega
        intro v' w3 hown' hgrow _
        have HO3 : Hid (OwnT w.heap.size (w3.alloc (.cells #[] 5)) v' (out ++ [mnB wd])) := World.ownsRow.alloc (ownT_add hown') _
        have hB3 : Bel w w3 := bel_grow hBa hgrow (fun j e => (hX.lt j e).1)
        have HC3 : Hid ((w3.alloc (.cells #[] 5)).ownsRow w.heap.size 5 1 (.slice (some ⟨w3.heap.size, 0, none⟩) 0 0) 0 (bytV ⟨#[]⟩)) := World.ownsRow_lit w3 #[] 0 hB3.out.size (Nat.zero_le _) rfl
        clear hown' hgrow hX hBa hcv
        go_wp2_with fail
        go_roundw
        case rel => exact ⟨k + 1, by omega, by go_num, by rw [HN.out]; exact HO3.out, by rw [HN.out]; exact HC3.out, bel_alloc hB3 _⟩
        case measure => simp [intOf]; omega
    have hks : k < s.size := by omega
    have hks' : (k : Int) < (s.size : Int) := by omega
    have hnew := stW_low hks
    rw [hst] at hnew
    clear hst
    have hb8 : s[k].toNat < 256 := UInt8.toNat_lt _
    by_cases hc0 : 65 ≤ s[k].toNat ∧ s[k].toNat ≤ 90
    · skip
      have hlw : lowB s[k].toNat = s[k].toNat + 32 := by unfold lowB; first | (rw [if_pos (by omega)]) | (rw [if_neg (by omega)])
      have hal : alB (lowB s[k].toNat) = true := by rw [hlw]; unfold alB; rw [decide_eq_true_eq]; omega
      have f0 : 65 ≤ (s[k].toNat : Int) := by omega
      have f1 : (s[k].toNat : Int) ≤ 90 := by omega
      have f2 : 97 ≤ (s[k].toNat : Int) + 32 := by omega
      have f3 : (s[k].toNat : Int) + 32 ≤ 122 := by omega
      have HN : Hid (stW s (k + 1) = (out, wd.push (UInt8.ofNat (s[k].toNat + 32)))) := by rw [hnew, wsS_yes hal, hlw]; exact rfl
      have hX : (wr.alloc (.cells #[.int .u8 ((s[k].toNat : Int) + 32)] 5)).ownsRow w.heap.size 5 1 (.slice ca wd.size cc) wd.size (bytV wd) := World.ownsRow.alloc hC _
      have hXo : (wr.alloc (.cells #[.int .u8 ((s[k].toNat : Int) + 32)] 5)).ownsRow w.heap.size 9 1 (.slice oa out.length oc) out.length (strsV out) := World.ownsRow.alloc hO _
      have hBa := bel_alloc hB (.cells #[.int .u8 ((s[k].toNat : Int) + 32)] 5)
      have HXo : Hid _ := hXo
      clear hnew hO hC hal hlw hXo
      go_wp2_with (first
        | (at_builtin; refine wpList_append_own _ rfl _ _ 29 rfl w.heap.size 5 i1 (.int .u8 0) 1 1 Try.underlying29 hi1 hy0 hy1 hy2 rfl (by decide) _ _ _ rfl hX ⟨wr.heap.size, 0, none⟩ 1 1 [.int .u8 ((s[k].toNat : Int) + 32)] rfl rfl ?d31 ?d32 ?d33 ?d34 ?d35 ?_)
        | go_in)
      case d31 =>
        intro j u hj
        match j, hj with
        | 0, hj => simp at hj; subst hj; simp [Addr.add]
      case d32 =>
        intro u hu
        simp at hu
        rcases hu with rfl
        rfl
      case d33 => unfold maxLen; omega
      case d34 => omega
      case d35 => simp; omega
      intro v' w3 hown' hgrow _
      have HC3 : Hid (w3.ownsRow w.heap.size 5 1 v' (wd.push (UInt8.ofNat (s[k].toNat + 32))).size (bytV (wd.push (UInt8.ofNat (s[k].toNat + 32))))) := by rw [bytV_push wd (by omega), ByteArray.size_push]; exact hown'
      have HO3 : Hid (OwnT w.heap.size w3 (.slice oa out.length oc) out) := own_across HXo.out hX (by decide) hgrow
      have hB3 : Bel w w3 := bel_grow hBa hgrow (fun j e => (hX.lt j e).1)
      clear hown' hgrow hX hBa
      go_wp2_with fail
      go_roundw
      case rel => exact ⟨k + 1, by omega, by go_num, by rw [HN.out]; exact HO3.out, by rw [HN.out]; exact HC3.out, hB3⟩
      case measure => simp [intOf]; omega
    by_cases hc1 : 97 ≤ s[k].toNat ∧ s[k].toNat ≤ 122
    · skip
      have hlw : lowB s[k].toNat = s[k].toNat := by unfold lowB; first | (rw [if_pos (by omega)]) | (rw [if_neg (by omega)])
      have hal : alB (lowB s[k].toNat) = true := by rw [hlw]; unfold alB; rw [decide_eq_true_eq]; omega
      have f0 : 65 ≤ (s[k].toNat : Int) := by omega
      have f1 : ¬ (s[k].toNat : Int) ≤ 90 := by omega
      have f2 : 97 ≤ (s[k].toNat : Int) := by omega
      have f3 : (s[k].toNat : Int) ≤ 122 := by omega
      have HN : Hid (stW s (k + 1) = (out, wd.push (UInt8.ofNat (s[k].toNat)))) := by rw [hnew, wsS_yes hal, hlw]; exact rfl
      have hX : (wr.alloc (.cells #[.int .u8 ((s[k].toNat : Int))] 5)).ownsRow w.heap.size 5 1 (.slice ca wd.size cc) wd.size (bytV wd) := World.ownsRow.alloc hC _
      have hXo : (wr.alloc (.cells #[.int .u8 ((s[k].toNat : Int))] 5)).ownsRow w.heap.size 9 1 (.slice oa out.length oc) out.length (strsV out) := World.ownsRow.alloc hO _
      have hBa := bel_alloc hB (.cells #[.int .u8 ((s[k].toNat : Int))] 5)
      have HXo : Hid _ := hXo
      clear hnew hO hC hal hlw hXo
      go_wp2_with (first
        | (at_builtin; refine wpList_append_own _ rfl _ _ 29 rfl w.heap.size 5 i1 (.int .u8 0) 1 1 Try.underlying29 hi1 hy0 hy1 hy2 rfl (by decide) _ _ _ rfl hX ⟨wr.heap.size, 0, none⟩ 1 1 [.int .u8 ((s[k].toNat : Int))] rfl rfl ?d61 ?d62 ?d63 ?d64 ?d65 ?_)
        | go_in)
      case d62 => rfl
      case d63 => unfold maxLen; omega
      case d64 => omega
      case d65 => omega
      intro v' w3 hown' hgrow _
      have HC3 : Hid (w3.ownsRow w.heap.size 5 1 v' (wd.push (UInt8.ofNat (s[k].toNat))).size (bytV (wd.push (UInt8.ofNat (s[k].toNat))))) := by rw [bytV_push wd (by omega), ByteArray.size_push]; exact hown'
      have HO3 : Hid (OwnT w.heap.size w3 (.slice oa out.length oc) out) := own_across HXo.out hX (by decide) hgrow
      have hB3 : Bel w w3 := bel_grow hBa hgrow (fun j e => (hX.lt j e).1)
      clear hown' hgrow hX hBa
      go_wp2_with fail
      go_roundw
      case rel => exact ⟨k + 1, by omega, by go_num, by rw [HN.out]; exact HO3.out, by rw [HN.out]; exact HC3.out, hB3⟩
      case measure => simp [intOf]; omega
    by_cases hc2 : 48 ≤ s[k].toNat ∧ s[k].toNat ≤ 57
    · skip
      have hlw : lowB s[k].toNat = s[k].toNat := by unfold lowB; first | (rw [if_pos (by omega)]) | (rw [if_neg (by omega)])
      have hal : alB (lowB s[k].toNat) = true := by rw [hlw]; unfold alB; rw [decide_eq_true_eq]; omega
      have f0 : ¬ 65 ≤ (s[k].toNat : Int) := by omega
      have f1 : ¬ 97 ≤ (s[k].toNat : Int) := by omega
      have f2 : 48 ≤ (s[k].toNat : Int) := by omega
      have f3 : (s[k].toNat : Int) ≤ 57 := by omega
      have HN : Hid (stW s (k + 1) = (out, wd.push (UInt8.ofNat (s[k].toNat)))) := by rw [hnew, wsS_yes hal, hlw]; exact rfl
      have hX : (wr.alloc (.cells #[.int .u8 ((s[k].toNat : Int))] 5)).ownsRow w.heap.size 5 1 (.slice ca wd.size cc) wd.size (bytV wd) := World.ownsRow.alloc hC _
      have hXo : (wr.alloc (.cells #[.int .u8 ((s[k].toNat : Int))] 5)).ownsRow w.heap.size 9 1 (.slice oa out.length oc) out.length (strsV out) := World.ownsRow.alloc hO _
      have hBa := bel_alloc hB (.cells #[.int .u8 ((s[k].toNat : Int))] 5)
      have HXo : Hid _ := hXo
      clear hnew hO hC hal hlw hXo
      go_wp2_with (first
        | (at_builtin; refine wpList_append_own _ rfl _ _ 29 rfl w.heap.size 5 i1 (.int .u8 0) 1 1 Try.underlying29 hi1 hy0 hy1 hy2 rfl (by decide) _ _ _ rfl hX ⟨wr.heap.size, 0, none⟩ 1 1 [.int .u8 ((s[k].toNat : Int))] rfl rfl ?d91 ?d92 ?d93 ?d94 ?d95 ?_)
        | go_in)
      case d92 => rfl
      case d93 => unfold maxLen; omega
      case d94 => omega
      case d95 => omega
      intro v' w3 hown' hgrow _
      have HC3 : Hid (w3.ownsRow w.heap.size 5 1 v' (wd.push (UInt8.ofNat (s[k].toNat))).size (bytV (wd.push (UInt8.ofNat (s[k].toNat))))) := by rw [bytV_push wd (by omega), ByteArray.size_push]; exact hown'
      have HO3 : Hid (OwnT w.heap.size w3 (.slice oa out.length oc) out) := own_across HXo.out hX (by decide) hgrow
      have hB3 : Bel w w3 := bel_grow hBa hgrow (fun j e => (hX.lt j e).1)
      clear hown' hgrow hX hBa
      go_wp2_with fail
      go_roundw
      case rel => exact ⟨k + 1, by omega, by go_num, by rw [HN.out]; exact HO3.out, by rw [HN.out]; exact HC3.out, hB3⟩
      case measure => simp [intOf]; omega
    by_cases hc3 : s[k].toNat < 48
    · skip
      have hlw : lowB s[k].toNat = s[k].toNat := by unfold lowB; rw [if_neg (by omega)]
      have hal : alB (lowB s[k].toNat) = false := by rw [hlw]; unfold alB; rw [decide_eq_false_iff_not]; omega
      have f0 : ¬ 65 ≤ (s[k].toNat : Int) := by omega
      have f1 : ¬ 97 ≤ (s[k].toNat : Int) := by omega
      have f2 : ¬ 48 ≤ (s[k].toNat : Int) := by omega
      rw [wsS_no hal] at hnew
      clear hlw hal
      by_cases hz : wd.size = 0
      · have hz' : ¬ (0 : Int) < (wd.size : Int) := by omega
        have HN : Hid (stW s (k + 1) = (out, wd)) := by rw [hnew]; exact clsW_no hz
        have HO : Hid (OwnT w.heap.size wr (.slice oa out.length oc) out) := hO
        have HC : Hid (wr.ownsRow w.heap.size 5 1 (.slice ca wd.size cc) wd.size (bytV wd)) := hC
        clear hnew hO hC
        go_wp2_with fail
        go_roundw
        case rel => exact ⟨k + 1, by omega, by go_num, by rw [HN.out]; exact HO.out, by rw [HN.out]; exact HC.out, hB⟩
        case measure => simp [intOf]; omega
      · have hz' : (0 : Int) < (wd.size : Int) := by omega
        have HN : Hid (stW s (k + 1) = (out ++ [mnB wd], ⟨#[]⟩)) := by rw [hnew]; exact clsW_yes hz
        have hcv := conv_bytes hC rfl hz
        have hX : (wr.alloc (.cells #[.string (mnB wd)] 9)).ownsRow w.heap.size 9 1 (.slice oa out.length oc) out.length (strsV out) := World.ownsRow.alloc hO _
        have hBa := bel_alloc hB (.cells #[.string (mnB wd)] 9)
        clear hnew hO hC
        go_wp2_with (first
          | (go_at_call 16; refine (l16Word_any _ _).mono ?_; rintro e w1 ⟨rfl, hq⟩; have hq := hq.symm; subst hq)
          | (at_builtin; refine wpList_append_own _ rfl _ _ 24 rfl w.heap.size 9 i0 (.string ⟨#[]⟩) 1 16 Try.underlying24 hi0 hz0 hz1 hz2 rfl (by decide) _ _ _ rfl hX ⟨wr.heap.size, 0, none⟩ 1 1 [.string (mnB wd)] rfl rfl ?d121 ?d122 ?d123 ?d124 ?d125 ?_)
          | go_in)
        case d121 =>
          intro j u hj
          match j, hj with
          | 0, hj => simp at hj; subst hj; simp [Addr.add]
        case d122 =>
          intro u hu
          simp at hu
          rcases hu with rfl
          rfl
        case d123 => unfold maxLen; omega
        case d124 => omega
        case d125 => simp; omega
        intro v' w3 hown' hgrow _
        have HO3 : Hid (OwnT w.heap.size (w3.alloc (.cells #[] 5)) v' (out ++ [mnB wd])) := World.ownsRow.alloc (ownT_add hown') _
        have hB3 : Bel w w3 := bel_grow hBa hgrow (fun j e => (hX.lt j e).1)
        have HC3 : Hid ((w3.alloc (.cells #[] 5)).ownsRow w.heap.size 5 1 (.slice (some ⟨w3.heap.size, 0, none⟩) 0 0) 0 (bytV ⟨#[]⟩)) := World.ownsRow_lit w3 #[] 0 hB3.out.size (Nat.zero_le _) rfl
        clear hown' hgrow hX hBa hcv
        go_wp2_with fail
        go_roundw
        case rel => exact ⟨k + 1, by omega, by go_num, by rw [HN.out]; exact HO3.out, by rw [HN.out]; exact HC3.out, bel_alloc hB3 _⟩
        case measure => simp [intOf]; omega
    by_cases hc4 : 58 ≤ s[k].toNat ∧ s[k].toNat ≤ 64
    · skip
      have hlw : lowB s[k].toNat = s[k].toNat := by unfold lowB; rw [if_neg (by omega)]
      have hal : alB (lowB s[k].toNat) = false := by rw [hlw]; unfold alB; rw [decide_eq_false_iff_not]; omega
      have f0 : ¬ 65 ≤ (s[k].toNat : Int) := by omega
      have f1 : ¬ 97 ≤ (s[k].toNat : Int) := by omega
      have f2 : 48 ≤ (s[k].toNat : Int) := by omega
      have f3 : ¬ (s[k].toNat : Int) ≤ 57 := by omega
      rw [wsS_no hal] at hnew
      clear hlw hal
      by_cases hz : wd.size = 0
      · have hz' : ¬ (0 : Int) < (wd.size : Int) := by omega
        have HN : Hid (stW s (k + 1) = (out, wd)) := by rw [hnew]; exact clsW_no hz
        have HO : Hid (OwnT w.heap.size wr (.slice oa out.length oc) out) := hO
        have HC : Hid (wr.ownsRow w.heap.size 5 1 (.slice ca wd.size cc) wd.size (bytV wd)) := hC
        clear hnew hO hC
        go_wp2_with fail
        go_roundw
        case rel => exact ⟨k + 1, by omega, by go_num, by rw [HN.out]; exact HO.out, by rw [HN.out]; exact HC.out, hB⟩
        case measure => simp [intOf]; omega
      · have hz' : (0 : Int) < (wd.size : Int) := by omega
        have HN : Hid (stW s (k + 1) = (out ++ [mnB wd], ⟨#[]⟩)) := by rw [hnew]; exact clsW_yes hz
        have hcv := conv_bytes hC rfl hz
        have hX : (wr.alloc (.cells #[.string (mnB wd)] 9)).ownsRow w.heap.size 9 1 (.slice oa out.length oc) out.length (strsV out) := World.ownsRow.alloc hO _
        have hBa := bel_alloc hB (.cells #[.string (mnB wd)] 9)
        clear hnew hO hC
        go_wp2_with (first
          | (go_at_call 16; refine (l16Word_any _ _).mono ?_; rintro e w1 ⟨rfl, hq⟩; have hq := hq.symm; subst hq)
          | (at_builtin; refine wpList_append_own _ rfl _ _ 24 rfl w.heap.size 9 i0 (.string ⟨#[]⟩) 1 16 Try.underlying24 hi0 hz0 hz1 hz2 rfl (by decide) _ _ _ rfl hX ⟨wr.heap.size, 0, none⟩ 1 1 [.string (mnB wd)] rfl rfl ?d151 ?d152 ?d153 ?d154 ?d155 ?_)
          | go_in)
        case d151 =>
          intro j u hj
          match j, hj with
          | 0, hj => simp at hj; subst hj; simp [Addr.add]
        case d152 =>
          intro u hu
          simp at hu
          rcases hu with rfl
          rfl
        case d153 => unfold maxLen; omega
        case d154 => omega
        case d155 => simp; omega
        intro v' w3 hown' hgrow _
        have HO3 : Hid (OwnT w.heap.size (w3.alloc (.cells #[] 5)) v' (out ++ [mnB wd])) := World.ownsRow.alloc (ownT_add hown') _
        have hB3 : Bel w w3 := bel_grow hBa hgrow (fun j e => (hX.lt j e).1)
        have HC3 : Hid ((w3.alloc (.cells #[] 5)).ownsRow w.heap.size 5 1 (.slice (some ⟨w3.heap.size, 0, none⟩) 0 0) 0 (bytV ⟨#[]⟩)) := World.ownsRow_lit w3 #[] 0 hB3.out.size (Nat.zero_le _) rfl
        clear hown' hgrow hX hBa hcv
        go_wp2_with fail
        go_roundw
        case rel => exact ⟨k + 1, by omega, by go_num, by rw [HN.out]; exact HO3.out, by rw [HN.out]; exact HC3.out, bel_alloc hB3 _⟩
        case measure => simp [intOf]; omega
    by_cases hc5 : 91 ≤ s[k].toNat ∧ s[k].toNat ≤ 96
    · skip
      have hlw : lowB s[k].toNat = s[k].toNat := by unfold lowB; rw [if_neg (by omega)]
      have hal : alB (lowB s[k].toNat) = false := by rw [hlw]; unfold alB; rw [decide_eq_false_iff_not]; omega
      have f0 : 65 ≤ (s[k].toNat : Int) := by omega
      have f1 : ¬ (s[k].toNat : Int) ≤ 90 := by omega
      have f2 : ¬ 97 ≤ (s[k].toNat : Int) := by omega
      have f3 : 48 ≤ (s[k].toNat : Int) := by omega
      have f4 : ¬ (s[k].toNat : Int) ≤ 57 := by omega
      rw [wsS_no hal] at hnew
      clear hlw hal
      by_cases hz : wd.size = 0
      · have hz' : ¬ (0 : Int) < (wd.size : Int) := by omega
        have HN : Hid (stW s (k + 1) = (out, wd)) := by rw [hnew]; exact clsW_no hz
        have HO : Hid (OwnT w.heap.size wr (.slice oa out.length oc) out) := hO
        have HC : Hid (wr.ownsRow w.heap.size 5 1 (.slice ca wd.size cc) wd.size (bytV wd)) := hC
        clear hnew hO hC
        go_wp2_with fail
        go_roundw
        case rel => exact ⟨k + 1, by omega, by go_num, by rw [HN.out]; exact HO.out, by rw [HN.out]; exact HC.out, hB⟩
        case measure => simp [intOf]; omega
      · have hz' : (0 : Int) < (wd.size : Int) := by omega
        have HN : Hid (stW s (k + 1) = (out ++ [mnB wd], ⟨#[]⟩)) := by rw [hnew]; exact clsW_yes hz
        have hcv := conv_bytes hC rfl hz
        have hX : (wr.alloc (.cells #[.string (mnB wd)] 9)).ownsRow w.heap.size 9 1 (.slice oa out.length oc) out.length (strsV out) := World.ownsRow.alloc hO _
        have hBa := bel_alloc hB (.cells #[.string (mnB wd)] 9)
        clear hnew hO hC
        go_wp2_with (first
          | (go_at_call 16; refine (l16Word_any _ _).mono ?_; rintro e w1 ⟨rfl, hq⟩; have hq := hq.symm; subst hq)
          | (at_builtin; refine wpList_append_own _ rfl _ _ 24 rfl w.heap.size 9 i0 (.string ⟨#[]⟩) 1 16 Try.underlying24 hi0 hz0 hz1 hz2 rfl (by decide) _ _ _ rfl hX ⟨wr.heap.size, 0, none⟩ 1 1 [.string (mnB wd)] rfl rfl ?d181 ?d182 ?d183 ?d184 ?d185 ?_)
          | go_in)
        case d181 =>
          intro j u hj
          match j, hj with
          | 0, hj => simp at hj; subst hj; simp [Addr.add]
        case d182 =>
          intro u hu
          simp at hu
          rcases hu with rfl
          rfl
        case d183 => unfold maxLen; omega
        case d184 => omega
        case d185 => simp; omega
        intro v' w3 hown' hgrow _
        have HO3 : Hid (OwnT w.heap.size (w3.alloc (.cells #[] 5)) v' (out ++ [mnB wd])) := World.ownsRow.alloc (ownT_add hown') _
        have hB3 : Bel w w3 := bel_grow hBa hgrow (fun j e => (hX.lt j e).1)
        have HC3 : Hid ((w3.alloc (.cells #[] 5)).ownsRow w.heap.size 5 1 (.slice (some ⟨w3.heap.size, 0, none⟩) 0 0) 0 (bytV ⟨#[]⟩)) := World.ownsRow_lit w3 #[] 0 hB3.out.size (Nat.zero_le _) rfl
        clear hown' hgrow hX hBa hcv
        go_wp2_with fail
        go_roundw
        case rel => exact ⟨k + 1, by omega, by go_num, by rw [HN.out]; exact HO3.out, by rw [HN.out]; exact HC3.out, bel_alloc hB3 _⟩
        case measure => simp [intOf]; omega
    have hc6 : 123 ≤ s[k].toNat := by omega
    have hlw : lowB s[k].toNat = s[k].toNat := by unfold lowB; rw [if_neg (by omega)]
    have hal : alB (lowB s[k].toNat) = false := by rw [hlw]; unfold alB; rw [decide_eq_false_iff_not]; omega
    have f0 : 65 ≤ (s[k].toNat : Int) := by omega
    have f1 : ¬ (s[k].toNat : Int) ≤ 90 := by omega
    have f2 : 97 ≤ (s[k].toNat : Int) := by omega
    have f3 : ¬ (s[k].toNat : Int) ≤ 122 := by omega
    have f4 : 48 ≤ (s[k].toNat : Int) := by omega
    have f5 : ¬ (s[k].toNat : Int) ≤ 57 := by omega
    rw [wsS_no hal] at hnew
    clear hlw hal
    by_cases hz : wd.size = 0
    · have hz' : ¬ (0 : Int) < (wd.size : Int) := by omega
      have HN : Hid (stW s (k + 1) = (out, wd)) := by rw [hnew]; exact clsW_no hz
      have HO : Hid (OwnT w.heap.size wr (.slice oa out.length oc) out) := hO
      have HC : Hid (wr.ownsRow w.heap.size 5 1 (.slice ca wd.size cc) wd.size (bytV wd)) := hC
      clear hnew hO hC
      go_wp2_with fail
      go_roundw
      case rel => exact ⟨k + 1, by omega, by go_num, by rw [HN.out]; exact HO.out, by rw [HN.out]; exact HC.out, hB⟩
      case measure => simp [intOf]; omega
    · have hz' : (0 : Int) < (wd.size : Int) := by omega
      have HN : Hid (stW s (k + 1) = (out ++ [mnB wd], ⟨#[]⟩)) := by rw [hnew]; exact clsW_yes hz
      have hcv := conv_bytes hC rfl hz
      have hX : (wr.alloc (.cells #[.string (mnB wd)] 9)).ownsRow w.heap.size 9 1 (.slice oa out.length oc) out.length (strsV out) := World.ownsRow.alloc hO _
      have hBa := bel_alloc hB (.cells #[.string (mnB wd)] 9)
      clear hnew hO hC
      go_wp2_with (first
        | (go_at_call 16; refine (l16Word_any _ _).mono ?_; rintro e w1 ⟨rfl, hq⟩; have hq := hq.symm; subst hq)
        | (at_builtin; refine wpList_append_own _ rfl _ _ 24 rfl w.heap.size 9 i0 (.string ⟨#[]⟩) 1 16 Try.underlying24 hi0 hz0 hz1 hz2 rfl (by decide) _ _ _ rfl hX ⟨wr.heap.size, 0, none⟩ 1 1 [.string (mnB wd)] rfl rfl ?d201 ?d202 ?d203 ?d204 ?d205 ?_)
        | go_in)
      case d201 =>
        intro j u hj
        match j, hj with
        | 0, hj => simp at hj; subst hj; simp [Addr.add]
      case d202 =>
        intro u hu
        simp at hu
        rcases hu with rfl
        rfl
      case d203 => unfold maxLen; omega
      case d204 => omega
      case d205 => simp; omega
      intro v' w3 hown' hgrow _
      have HO3 : Hid (OwnT w.heap.size (w3.alloc (.cells #[] 5)) v' (out ++ [mnB wd])) := World.ownsRow.alloc (ownT_add hown') _
      have hB3 : Bel w w3 := bel_grow hBa hgrow (fun j e => (hX.lt j e).1)
      have HC3 : Hid ((w3.alloc (.cells #[] 5)).ownsRow w.heap.size 5 1 (.slice (some ⟨w3.heap.size, 0, none⟩) 0 0) 0 (bytV ⟨#[]⟩)) := World.ownsRow_lit w3 #[] 0 hB3.out.size (Nat.zero_le _) rfl
      clear hown' hgrow hX hBa hcv
      go_wp2_with fail
      go_roundw
      case rel => exact ⟨k + 1, by omega, by go_num, by rw [HN.out]; exact HO3.out, by rw [HN.out]; exact HC3.out, bel_alloc hB3 _⟩
      case measure => simp [intOf]; omega
end Go.Proofs.Ytonedkibbdbgjaa

