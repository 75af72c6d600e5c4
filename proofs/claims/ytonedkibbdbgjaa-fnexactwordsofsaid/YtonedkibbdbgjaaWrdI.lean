/-
  Contracts of what words are, in the program: for every text.
-/
import Derived.Test.YtonedkibbdbgjaaWrdM
import Derived.Test.YtonedkibbdbgjaaTagC
import Derived.Test.YtonedkibbdbgjaaDString
import Derived.Test.YtonedkibbdbgjaaAppI
import Derived.Laws.Runes
import Derived.Lib.OthersKept
import Derived.Deep.LoopGhost
namespace Go.Proofs.Ytonedkibbdbgjaa
open Go.RowKit

def strsV (l : List ByteArray) : List Value := l.map .string
/-- A row of texts of the call's own. -/
def OwnT (base : Nat) (w : World) (v : Value) (l : List ByteArray) : Prop := w.ownsRow base 9 1 v l.length (strsV l)
theorem ownT_add {base : Nat} {w : World} {v : Value} {l : List ByteArray} {x : ByteArray} (h : w.ownsRow base 9 1 v (l.length + 1) (strsV l ++ [.string x])) : OwnT base w v (l ++ [x]) := by
  unfold OwnT strsV
  rw [List.length_append, List.map_append]
  exact h
theorem it_own {w : World} {B e q n : Nat} {v : Value} {xs : List Value} {k pos : Nat} {s : ByteArray} (h : w.ownsRow B e q v n xs) (hk : w.heap[k]? = some (.stringIter s pos)) (p : Nat) : (w.iterAt k s p).ownsRow B e q v n xs := by
  obtain ⟨h1, h2⟩ := h
  refine ⟨h1, ?_⟩
  rcases h2 with h2 | ⟨g, cap, cur, e1, e2, e3, e4⟩
  · exact .inl h2
  · refine .inr ⟨g, cap, cur, e1, e2, ?_, e4⟩
    have hne : g ≠ k := by intro e; rw [e, hk] at e3; cases e3
    rw [Lib.iterAt_other _ _ _ _ _ hne]
    exact e3
theorem it_ne {w : World} {B e q n : Nat} {v : Value} {xs : List Value} {k pos : Nat} {s : ByteArray} (h : w.ownsRow B e q v n xs) (hk : w.heap[k]? = some (.stringIter s pos)) : some k ≠ v.ownBlock := by
  obtain ⟨_, h2⟩ := h
  rcases h2 with ⟨rfl, _⟩ | ⟨g, cap, cur, rfl, _, e3, _⟩
  · intro e; simp [Value.ownBlock] at e
  · intro e
    simp only [Value.ownBlock, Option.some.injEq] at e
    rw [← e, hk] at e3
    cases e3
theorem bel_it {w0 w : World} (h : Bel w0 w) {k : Nat} (hk : w0.heap.size ≤ k) (s : ByteArray) (p : Nat) : Bel w0 (w.iterAt k s p) := Lib.below_iterAt h hk s p

theorem meant_any (W : ByteArray) (w : World) : Calls Try.prog 18 #[.string W] w fun e w' => e = .returned (.string (mnB W)) ∧ w' = w := by
  unfold mnB
  cases h1 : (W.toList == [115, 116])
  · cases h2 : (W.toList == [114, 100])
    · cases h3 : (W.toList == [108, 110])
      · cases h4 : (W.toList == [110])
        · cases h5 : (W.toList == [110, 116, 104])
          · cases h6 : (W.toList == [115]) <;> (
              go_enter Try.func18, Try.ntmps18
              go_wp2_with fail
              go_ret
              exact ⟨rfl, rfl⟩)
          · go_enter Try.func18, Try.ntmps18
            go_wp2_with fail
            go_ret
            exact ⟨rfl, rfl⟩
        · go_enter Try.func18, Try.ntmps18
          go_wp2_with fail
          go_ret
          exact ⟨rfl, rfl⟩
      · go_enter Try.func18, Try.ntmps18
        go_wp2_with fail
        go_ret
        exact ⟨rfl, rfl⟩
    · go_enter Try.func18, Try.ntmps18
      go_wp2_with fail
      go_ret
      exact ⟨rfl, rfl⟩
  · go_enter Try.func18, Try.ntmps18
    go_wp2_with fail
    go_ret
    exact ⟨rfl, rfl⟩

theorem wordRune_any (r : Int) (w : World) : Calls Try.prog 17 #[.int .i32 r] w fun e w' => e = .returned (.tuple #[.int .i32 (wrR r).1, .bool (wrR r).2]) ∧ w' = w := by
  by_cases a1 : 65 ≤ r <;> by_cases a2 : r ≤ 90 <;> by_cases a3 : 97 ≤ r <;> by_cases a4 : r ≤ 122 <;> by_cases a5 : 48 ≤ r <;> by_cases a6 : r ≤ 57 <;> first
    | (exfalso; omega)
    | (have hv : wrR r = (r + 32, true) := by unfold wrR; rw [if_pos (by omega)]
       have e32 : r - 65 + 97 = r + 32 := by omega
       rw [hv]; clear hv
       go_enter Try.func17, Try.ntmps17
       go_wp2_with fail
       exact bodyPost_ret (v := .tuple #[.int .i32 (r + 32), .bool true]) (by simp [results, Try.results17, go_sem]) rfl ⟨rfl, rfl⟩)
    | (have hv : wrR r = (r, true) := by unfold wrR; rw [if_neg (by omega), if_pos (by omega)]
       rw [hv]; clear hv
       go_enter Try.func17, Try.ntmps17
       go_wp2_with fail
       exact bodyPost_ret (v := .tuple #[.int .i32 r, .bool true]) (by simp [results, Try.results17, go_sem]) rfl ⟨rfl, rfl⟩)
    | (have hv : wrR r = (0, false) := by unfold wrR; rw [if_neg (by omega), if_neg (by omega)]
       rw [hv]; clear hv
       go_enter Try.func17, Try.ntmps17
       go_wp2_with fail
       exact bodyPost_ret (v := .tuple #[.int .i32 0, .bool false]) (by simp [results, Try.results17, go_sem]) rfl ⟨rfl, rfl⟩)

theorem bts_app (A B : ByteArray) : bts (A ++ B) = bts A ++ bts B := by simp [bts]
theorem enc_low {n : Nat} (h : n < 128) : Utf8.encode (n : Int) = ⟨#[UInt8.ofNat n]⟩ := by
  have hv : Utf8.valid (n : Int) = true := by unfold Utf8.valid; simp; omega
  unfold Utf8.encode
  simp only [hv, if_true]
  rw [if_pos (by omega)]
  simp
theorem push_one (W : ByteArray) (b : UInt8) : W ++ ⟨#[b]⟩ = W.push b := by
  apply ByteArray.ext
  simp
theorem take_one {l : List UInt8} {i : Nat} (h : i < l.length) : l.take (i + 1) = l.take i ++ [l[i]] := List.take_succ_eq_append_getElem h
theorem wsL_rune {s : ByteArray} {pos : Nat} (h : pos < s.size) (ha : 128 ≤ s[pos].toNat) : wsL ((bts s).take (pos + (Utf8.decode s pos).2)) = clsW (wsL ((bts s).take pos)) := by
  obtain ⟨_, h1, h2, h3⟩ := dec_wide s pos h ha
  generalize (Utf8.decode s pos).2 = k at h1 h2 h3
  have hl := bts_len s
  rw [List.take_add]
  refine wsL_run _ _ ?_ ?_
  · intro b hb
    obtain ⟨i, hi, rfl⟩ := List.mem_iff_getElem.1 hb
    rw [List.length_take, List.length_drop] at hi
    rw [List.getElem_take, List.getElem_drop]
    exact h3 (pos + i) (by omega) (by omega) (by omega)
  · intro e
    have := congrArg List.length e
    rw [List.length_take, List.length_drop, List.length_nil] at this
    omega
theorem rune_step (S : ByteArray) (pos : Nat) (h : pos < S.size) :
    1 ≤ (Utf8.decode S pos).2 ∧ pos + (Utf8.decode S pos).2 ≤ S.size ∧
    ((∃ n : Nat, n < 128 ∧ wrR ((Utf8.decode S pos).1 : Int) = ((n : Int), true) ∧ wsL ((bts S).take (pos + (Utf8.decode S pos).2)) = ((wsL ((bts S).take pos)).1, (wsL ((bts S).take pos)).2 ++ ⟨#[UInt8.ofNat n]⟩)) ∨
     (wrR ((Utf8.decode S pos).1 : Int) = (0, false) ∧ wsL ((bts S).take (pos + (Utf8.decode S pos).2)) = clsW (wsL ((bts S).take pos)))) := by
  by_cases ha : 128 ≤ S[pos].toNat
  · have hr := wsL_rune h ha
    obtain ⟨h0, h1, h2, _⟩ := dec_wide S pos h ha
    exact ⟨h1, h2, .inr ⟨wrR_wide (by omega), hr⟩⟩
  · have hb : S[pos].toNat < 128 := by omega
    rw [dec_low S pos h hb]
    refine ⟨Nat.le_refl _, h, ?_⟩
    show (∃ n : Nat, n < 128 ∧ wrR (S[pos].toNat : Int) = ((n : Int), true) ∧ wsL ((bts S).take (pos + 1)) = _) ∨ (wrR (S[pos].toNat : Int) = (0, false) ∧ wsL ((bts S).take (pos + 1)) = _)
    have hwr := wrR_low hb
    have htk : wsL ((bts S).take (pos + 1)) = wsS (wsL ((bts S).take pos)) S[pos] := by rw [take_one (l := bts S) (i := pos) (by rw [bts_len]; exact h), wsL_snoc]; rfl
    rw [htk]
    cases hal : alB (lowB S[pos].toNat)
    · exact .inr ⟨by rw [hwr, hal]; rfl, wsS_no hal⟩
    · refine .inl ⟨lowB S[pos].toNat, ?_, by rw [hwr, hal]; rfl, ?_⟩
      · unfold lowB; split <;> omega
      · rw [wsS_yes hal, push_one]
theorem clsW_no {st : List ByteArray × ByteArray} (h : st.2.size = 0) : clsW st = st := if_pos h
theorem clsW_yes {st : List ByteArray × ByteArray} (h : ¬ st.2.size = 0) : clsW st = (st.1 ++ [mnB st.2], ⟨#[]⟩) := if_neg h
theorem isE {W : ByteArray} (b : Bool) (h : decide (W.size = 0) = b) : W.toList.isEmpty = b := by
  rw [← h, ByteArray.toList_eq]
  have : W.size = W.data.toList.length := by simp
  rw [this]
  cases W.data.toList <;> simp
theorem infoT : (Try.prog.info? 9).map (fun i => (i.zero, i.size, i.bytes)) = some (some (.string ⟨#[]⟩), 1, 16) := by kernel_rfl

set_option maxRecDepth 100000 in
set_option maxHeartbeats 4000000 in
theorem wordsOf_any (s : ByteArray) (w : World) (hs : s.size ≤ maxLen) :
    Calls Try.prog 9 #[.string s] w fun e w' => ∃ v, e = .returned v ∧ OwnT w.heap.size w' v (wdQ s) ∧ Bel w w' := by
  unfold maxLen at hs
  by_cases h1 : 100 < s.size
  · have hv : wdQ s = [] := if_pos h1
    rw [hv]
    have h1' : (100 : Int) < s.size := by omega
    go_enter Try.func9, Try.ntmps9
    go_wp2_with fail
    go_ret
    exact ⟨_, rfl, World.ownsRow_nil _ _ _ _, Bel.refl _⟩
  have HV : Hid (wdQ s = (wsL (bts s ++ [32])).1) := if_neg h1
  have h1' : ¬ (100 : Int) < s.size := by omega
  obtain ⟨i0, hi0, hz0, hz1, hz2⟩ := info_parts infoT
  obtain ⟨S, HS⟩ : ∃ S, Hid (S = s ++ ⟨#[32]⟩) := ⟨_, (rfl : s ++ ⟨#[32]⟩ = _)⟩
  have HB : Hid (bts S = bts s ++ [32]) := by have : bts S = bts s ++ [32] := by rw [HS.out, bts_app]; rfl
                                              exact this
  have hSz : S.size = s.size + 1 := by rw [HS.out, ByteArray.size_append]; rfl
  have hS101 : S.size ≤ 101 := by omega
  clear hs
  go_enter Try.func9, Try.ntmps9
  go_wp2_with fail
  rw [← HS.out]
  go_loopg [3, 4] S.size (fun gf v3 v4 wx => ∃ pos : Nat, pos ≤ S.size ∧ S.size ≤ pos + gf ∧ OwnT w.heap.size wx v3 (wsL ((bts S).take pos)).1 ∧ v4 = .string (wsL ((bts S).take pos)).2 ∧ wx.heap[w.heap.size]? = some (.stringIter S pos) ∧ Bel w wx)
  case atStart => exact ⟨0, Nat.zero_le _, by omega, World.ownsRow_nil _ _ _ _, rfl, World.iter_heap w S 0, bel_alloc (Bel.refl _) _⟩
  case round =>
    obtain ⟨pos, hp, hgf, hown, rfl, hit, hB⟩ := hrel
    obtain ⟨va, vc, rfl⟩ := own_shape hown
    by_cases hlt : pos < S.size
    · obtain ⟨g', rfl⟩ : ∃ g', gk = g' + 1 := ⟨gk - 1, by omega⟩
      have hnx : ∀ ty, (Instr.next (.pointer (some ⟨w.heap.size, 0, none⟩)) true ty).run Try.prog wr = _ := fun ty => Lib.run_next_any_at wr w.heap.size S pos ty hit hlt
      obtain ⟨hK1, hK2, hst⟩ := rune_step S pos hlt
      obtain ⟨R, hR⟩ : ∃ R, (Utf8.decode S pos).1 = R := ⟨_, rfl⟩
      obtain ⟨K, hK⟩ : ∃ K, (Utf8.decode S pos).2 = K := ⟨_, rfl⟩
      rw [hR, hK] at hnx hst
      rw [hK] at hK1 hK2
      have hit2 := Lib.iterAt_heap wr w.heap.size S pos (pos + K) hit
      have hB2 := bel_it hB (Nat.le_refl _) S (pos + K)
      have hown2 := it_own hown hit (pos + K)
      have hl1 := wsL_len ((bts S).take pos)
      have hl2 : ((bts S).take pos).length ≤ 101 := by rw [List.length_take, bts_len]; omega
      clear hit hB hown hR hK
      obtain ⟨Wq, hWq⟩ : ∃ W, wr.iterAt w.heap.size S (pos + K) = W := ⟨_, rfl⟩
      rw [hWq] at hnx hit2 hB2 hown2
      obtain ⟨out, ho⟩ : ∃ x, (wsL ((bts S).take pos)).1 = x := ⟨_, rfl⟩
      obtain ⟨wd, hw⟩ : ∃ x, (wsL ((bts S).take pos)).2 = x := ⟨_, rfl⟩
      have hsw : wsL ((bts S).take pos) = (out, wd) := by rw [← ho, ← hw]
      rw [hsw] at hst
      rw [ho, hw] at hl1
      rw [ho] at hown2 ⊢
      rw [hw]
      clear hsw ho hw hWq hlt
      rcases hst with ⟨n, hn, hwr, hnew⟩ | ⟨hwr, hnew⟩
      · have hcv : ∀ w : World, (convert 21 9 (.int .i32 (n : Int))).run Try.prog w = .ok (.string ⟨#[UInt8.ofNat n]⟩) w := fun w => by
          rw [← enc_low hn]
          exact run_convert_int_string w 21 9 .i32 (n : Int) (by rw [Try.underlying21]; rfl) Try.underlying9
        have hone : (ByteArray.mk #[UInt8.ofNat n]).size = 1 := rfl
        have HN : Hid (wsL ((bts S).take (pos + K)) = (out, wd ++ ⟨#[UInt8.ofNat n]⟩)) := hnew
        have HO : Hid (OwnT w.heap.size Wq (.slice va out.length vc) out) := hown2
        clear hnew hown2
        go_wp2_with (first | (go_at_call 17; refine (wordRune_any _ _).mono ?_; rintro e w1 ⟨rfl, hq⟩; have hq := hq.symm; subst hq; rw [hwr]) | go_in)
        go_roundg g'
        case measure => omega
        case rel => exact ⟨pos + K, hK2, by omega, by rw [HN.out]; exact HO.out, by rw [HN.out], hit2, hB2⟩
      · by_cases hz : wd.size = 0
        · have HN : Hid (wsL ((bts S).take (pos + K)) = (out, wd)) := by rw [hnew]; exact clsW_no hz
          have HO : Hid (OwnT w.heap.size Wq (.slice va out.length vc) out) := hown2
          have hemp := isE (W := wd) true (decide_eq_true hz)
          clear hnew hown2
          go_wp2_with (first | (go_at_call 17; refine (wordRune_any _ _).mono ?_; rintro e w1 ⟨rfl, hq⟩; have hq := hq.symm; subst hq; rw [hwr]) | go_in)
          go_roundg g'
          case measure => omega
          case rel => exact ⟨pos + K, hK2, by omega, by rw [HN.out]; exact HO.out, by rw [HN.out], hit2, hB2⟩
        · have HN : Hid (wsL ((bts S).take (pos + K)) = (out ++ [mnB wd], ⟨#[]⟩)) := by rw [hnew]; exact clsW_yes hz
          have hemp := isE (W := wd) false (decide_eq_false hz)
          have hX : (Wq.alloc (.cells #[.string (mnB wd)] 9)).ownsRow w.heap.size 9 1 (.slice va out.length vc) out.length (strsV out) := World.ownsRow.alloc hown2 _
          have hBa := bel_alloc hB2 (.cells #[.string (mnB wd)] 9)
          have hsz := hB2.out.size
          have hio := it_ne hown2 hit2
          have hlt9 : w.heap.size < Wq.heap.size := (Array.getElem?_eq_some_iff.1 hit2).1
          clear hnew hown2
          go_wp2_with (first
            | (go_at_call 17; refine (wordRune_any _ _).mono ?_; rintro e w1 ⟨rfl, hq⟩; have hq := hq.symm; subst hq; rw [hwr])
            | (go_at_call 18; refine (meant_any _ _).mono ?_; rintro e w1 ⟨rfl, hq⟩; have hq := hq.symm; subst hq)
            | (at_builtin; refine wpList_append_own _ rfl _ _ 24 rfl w.heap.size 9 i0 (.string ⟨#[]⟩) 1 16 Try.underlying24 hi0 hz0 hz1 hz2 rfl (by decide) _ _ _ rfl hX ⟨Wq.heap.size, 0, none⟩ 1 1 [.string (mnB wd)] rfl rfl ?c1 ?c2 ?c3 ?c4 ?c5 ?_)
            | go_in)
          case c1 =>
            intro j u hj
            match j, hj with
            | 0, hj => simp at hj; subst hj; simp [Addr.add]
          case c2 =>
            intro u hu
            simp at hu
            rcases hu with rfl
            rfl
          case c3 => unfold maxLen; omega
          case c4 => omega
          case c5 => simp; omega
          intro v' w3 hown' hgrow _
          have HO3 : Hid (OwnT w.heap.size w3 v' (out ++ [mnB wd])) := ownT_add hown'
          have hB3 : Bel w w3 := bel_grow hBa hgrow (fun j e => (hX.lt j e).1)
          have hit3 : w3.heap[w.heap.size]? = some (.stringIter S (pos + K)) := (hgrow.block w.heap.size (by simp; omega) hio).trans ((Below.heap_alloc _ _ _ hlt9).trans hit2)
          clear hown' hgrow hX hBa
          go_wp2
          go_roundg g'
          case measure => omega
          case rel => exact ⟨pos + K, hK2, by omega, by rw [HN.out]; exact HO3.out, by rw [HN.out], hit3, hB3⟩
    · obtain rfl : pos = S.size := by omega
      have hnx : ∀ ty, (Instr.next (.pointer (some ⟨w.heap.size, 0, none⟩)) true ty).run Try.prog wr = _ := fun ty => Lib.run_next_end_at wr w.heap.size S S.size ty hit hlt
      have HF : Hid (OwnT w.heap.size wr (.slice va (wsL ((bts S).take S.size)).1.length vc) (wdQ s)) := by
        rw [HV.out, ← HB.out]
        have e : (bts S).take S.size = bts S := List.take_of_length_le (by rw [bts_len]; exact Nat.le_refl _)
        rw [e] at hown ⊢
        exact hown
      clear hown
      go_wp2
      go_ret
      exact ⟨_, rfl, HF.out, hB⟩
end Go.Proofs.Ytonedkibbdbgjaa
