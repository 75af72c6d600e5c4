/-
  The words of a text: mathematics.
-/
import Derived.Test.YtonedkibbdbgjaaEdtM
namespace Go.Proofs.Ytonedkibbdbgjaa

/-- A byte, small. -/
def lowB (n : Nat) : Nat := if 65 ≤ n ∧ n ≤ 90 then n + 32 else n
/-- A small letter or a digit. -/
def alB (n : Nat) : Bool := decide (97 ≤ n ∧ n ≤ 122 ∨ 48 ≤ n ∧ n ≤ 57)
/-- The whole word for one that is short for it. -/
def mnB (w : ByteArray) : ByteArray :=
  if w.toList == [115, 116] then ⟨#[115, 116, 114, 101, 101, 116]⟩ else
  if w.toList == [114, 100] then ⟨#[114, 111, 97, 100]⟩ else
  if w.toList == [108, 110] then ⟨#[108, 97, 110, 101]⟩ else
  if w.toList == [110] then ⟨#[110, 111, 114, 116, 104]⟩ else
  if w.toList == [110, 116, 104] then ⟨#[110, 111, 114, 116, 104]⟩ else
  if w.toList == [115] then ⟨#[115, 111, 117, 116, 104]⟩ else w
/-- A word ends here. -/
def clsW (st : List ByteArray × ByteArray) : List ByteArray × ByteArray := if st.2.size = 0 then st else (st.1 ++ [mnB st.2], ⟨#[]⟩)
def wsS (st : List ByteArray × ByteArray) (b : UInt8) : List ByteArray × ByteArray :=
  if alB (lowB b.toNat) = true then (st.1, st.2.push (UInt8.ofNat (lowB b.toNat))) else clsW st
/-- The words so far, and the one that is begun. -/
def wsL (l : List UInt8) : List ByteArray × ByteArray := l.foldl wsS ([], ⟨#[]⟩)
theorem wsL_snoc (l : List UInt8) (b : UInt8) : wsL (l ++ [b]) = wsS (wsL l) b := by simp [wsL]
theorem clsW_two (st : List ByteArray × ByteArray) : clsW (clsW st) = clsW st := by
  unfold clsW
  by_cases h : st.2.size = 0
  · rw [if_pos h, if_pos h]
  · rw [if_neg h]; rfl
theorem wsS_no {st : List ByteArray × ByteArray} {b : UInt8} (h : alB (lowB b.toNat) = false) : wsS st b = clsW st := by unfold wsS; rw [h]; rfl
theorem wsS_yes {st : List ByteArray × ByteArray} {b : UInt8} (h : alB (lowB b.toNat) = true) : wsS st b = (st.1, st.2.push (UInt8.ofNat (lowB b.toNat))) := by unfold wsS; rw [if_pos h]
theorem al_wide {b : UInt8} (h : 128 ≤ b.toNat) : alB (lowB b.toNat) = false := by
  unfold alB lowB
  rw [if_neg (by omega), decide_eq_false_iff_not]
  omega
theorem wsL_run (l r : List UInt8) (hr : ∀ b ∈ r, 128 ≤ b.toNat) (h0 : r ≠ []) : wsL (l ++ r) = clsW (wsL l) := by
  induction r generalizing l with
  | nil => exact absurd rfl h0
  | cons b r ih =>
    rw [show l ++ b :: r = (l ++ [b]) ++ r by simp]
    have hb := wsS_no (st := wsL l) (al_wide (hr b (by simp)))
    by_cases h : r = []
    · subst h; rw [List.append_nil, wsL_snoc, hb]
    · rw [ih _ (fun x hx => hr x (by simp [hx])) h, wsL_snoc, hb, clsW_two]
theorem cls_len (st : List ByteArray × ByteArray) : (clsW st).1.length + (clsW st).2.size ≤ st.1.length + st.2.size := by
  unfold clsW
  split
  · exact Nat.le_refl _
  · have : (ByteArray.mk #[]).size = 0 := rfl
    simp only [List.length_append, List.length_singleton, this]; omega
theorem snoc_up {p : List UInt8 → Prop} (h0 : p []) (h1 : ∀ l b, p l → p (l ++ [b])) : ∀ l, p l := by
  have key : ∀ r : List UInt8, p r.reverse := by
    intro r
    induction r with
    | nil => exact h0
    | cons b r ih => rw [List.reverse_cons]; exact h1 _ _ ih
  intro l
  have := key l.reverse
  rwa [List.reverse_reverse] at this
theorem wsL_len (l : List UInt8) : (wsL l).1.length + (wsL l).2.size ≤ l.length := by
  refine snoc_up (p := fun l => (wsL l).1.length + (wsL l).2.size ≤ l.length) (Nat.le_refl _) ?_ l
  · intro l b ih
    rw [wsL_snoc, List.length_append, List.length_singleton]
    cases h : alB (lowB b.toNat)
    · rw [wsS_no h]; have := cls_len (wsL l); omega
    · rw [wsS_yes h]; simp only [ByteArray.size_push]; omega
/-- The words of a text. -/
def wdQ (s : ByteArray) : List ByteArray := if 100 < s.size then [] else (wsL (bts s ++ [32])).1
theorem wsL_end (l : List UInt8) {b : UInt8} (h : alB (lowB b.toNat) = false) : (wsL (l ++ [b])) = (wsL (l ++ [32])) := by
  rw [wsL_snoc, wsL_snoc, wsS_no h, wsS_no (by decide)]
theorem mnB_size (w : ByteArray) : (mnB w).size ≤ w.size + 6 := by
  unfold mnB
  have h1 : (ByteArray.mk #[115, 116, 114, 101, 101, 116]).size = 6 := rfl
  have h2 : (ByteArray.mk #[114, 111, 97, 100]).size = 4 := rfl
  have h3 : (ByteArray.mk #[108, 97, 110, 101]).size = 4 := rfl
  have h4 : (ByteArray.mk #[110, 111, 114, 116, 104]).size = 5 := rfl
  have h5 : (ByteArray.mk #[115, 111, 117, 116, 104]).size = 5 := rfl
  repeat' split
  all_goals omega
theorem wsL_short (l : List UInt8) : ∀ x ∈ (wsL l).1, x.size ≤ l.length + 6 := by
  refine snoc_up (p := fun l => ∀ x ∈ (wsL l).1, x.size ≤ l.length + 6) (fun x hx => by cases hx) ?_ l
  · intro l b ih
    rw [wsL_snoc, List.length_append, List.length_singleton]
    intro x hx
    cases h : alB (lowB b.toNat)
    · rw [wsS_no h] at hx
      unfold clsW at hx
      split at hx
      · have := ih x hx; omega
      · rcases List.mem_append.1 hx with hx | hx
        · have := ih x hx; omega
        · rw [List.mem_singleton] at hx
          subst hx
          have := mnB_size (wsL l).2
          have := wsL_len l
          omega
    · rw [wsS_yes h] at hx
      have := ih x hx; omega

/-- What a rune of a text is: a byte below 128, or one that stands for bytes from 128 on. -/
theorem dec_low (s : ByteArray) (pos : Nat) (h : pos < s.size) (ha : s[pos].toNat < 128) : Utf8.decode s pos = (s[pos].toNat, 1) := decode_ascii s pos h ha
theorem get_at {s : ByteArray} {i : Nat} (h : i < s.size) : s.get! i = s[i] := by
  simp [ByteArray.get!, getElem!_pos, h]; rfl
theorem dec_wide (s : ByteArray) (pos : Nat) (h : pos < s.size) (ha : 128 ≤ s[pos].toNat) :
    128 ≤ (Utf8.decode s pos).1 ∧ 1 ≤ (Utf8.decode s pos).2 ∧ pos + (Utf8.decode s pos).2 ≤ s.size ∧ ∀ j (hj : j < s.size), pos ≤ j → j < pos + (Utf8.decode s pos).2 → 128 ≤ s[j].toNat := by
  have e0 : s.get! (pos + 0) = s[pos] := get_at h
  have hb : ∀ i, (s.get! i).toNat < 256 := fun i => UInt8.toNat_lt _
  have hc : ∀ k, (decide (pos + k < s.size) && (s.get! (pos + k)).toNat / 64 == 2) = true → ∃ hk : pos + k < s.size, 128 ≤ s[pos + k].toNat := by
    intro k hk
    simp only [Bool.and_eq_true, decide_eq_true_eq, beq_iff_eq] at hk
    refine ⟨hk.1, ?_⟩
    have := hk.2
    rw [get_at hk.1] at this
    omega
  have one : ∀ j (hj : j < s.size), pos ≤ j → j < pos + 1 → 128 ≤ s[j].toNat := by
    intro j hj h1 h2
    obtain rfl : j = pos := by omega
    exact ha
  simp only [Utf8.decode, e0, if_neg (by omega : ¬ s[pos].toNat < 128)]
  split
  · rename_i hk
    rw [Bool.and_eq_true] at hk
    obtain ⟨k1, q1⟩ := hc 1 hk.2
    split
    · refine ⟨by assumption, by omega, by omega, ?_⟩
      intro j hj h1 h2
      rcases (show j = pos ∨ j = pos + 1 by omega) with rfl | rfl
      · exact ha
      · exact q1
    · exact ⟨by decide, by omega, by omega, one⟩
  split
  · rename_i hk
    rw [Bool.and_eq_true, Bool.and_eq_true] at hk
    obtain ⟨k1, q1⟩ := hc 1 hk.1.2
    obtain ⟨k2, q2⟩ := hc 2 hk.2
    split
    · rename_i hv
      rw [Bool.and_eq_true] at hv
      have hv1 := of_decide_eq_true hv.1
      refine ⟨by show 128 ≤ _; omega, by omega, by omega, ?_⟩
      intro j hj h1 h2
      rcases (show j = pos ∨ j = pos + 1 ∨ j = pos + 2 by omega) with rfl | rfl | rfl
      · exact ha
      · exact q1
      · exact q2
    · exact ⟨by decide, by omega, by omega, one⟩
  split
  · rename_i hk
    rw [Bool.and_eq_true, Bool.and_eq_true, Bool.and_eq_true] at hk
    obtain ⟨k1, q1⟩ := hc 1 hk.1.1.2
    obtain ⟨k2, q2⟩ := hc 2 hk.1.2
    obtain ⟨k3, q3⟩ := hc 3 hk.2
    split
    · rename_i hv
      rw [Bool.and_eq_true] at hv
      have hv1 := of_decide_eq_true hv.1
      refine ⟨by show 128 ≤ _; omega, by omega, by omega, ?_⟩
      intro j hj h1 h2
      rcases (show j = pos ∨ j = pos + 1 ∨ j = pos + 2 ∨ j = pos + 3 by omega) with rfl | rfl | rfl | rfl
      · exact ha
      · exact q1
      · exact q2
      · exact q3
    · exact ⟨by decide, by omega, by omega, one⟩
  exact ⟨by decide, by omega, by omega, one⟩
/-- A rune as a letter. -/
def wrR (r : Int) : Int × Bool := if 65 ≤ r ∧ r ≤ 90 then (r + 32, true) else if 97 ≤ r ∧ r ≤ 122 ∨ 48 ≤ r ∧ r ≤ 57 then (r, true) else (0, false)
theorem wrR_low {n : Nat} (h : n < 128) : wrR n = if alB (lowB n) = true then (((lowB n : Nat) : Int), true) else (0, false) := by
  unfold wrR alB lowB
  by_cases h1 : 65 ≤ n ∧ n ≤ 90
  · rw [if_pos (by omega), if_pos h1, if_pos (by rw [decide_eq_true_eq]; omega)]; rfl
  · rw [if_neg (by omega), if_neg h1]
    by_cases h2 : 97 ≤ n ∧ n ≤ 122 ∨ 48 ≤ n ∧ n ≤ 57
    · rw [if_pos (by omega), if_pos (by rw [decide_eq_true_eq]; exact h2)]
    · rw [if_neg (by omega), if_neg (by rw [decide_eq_true_eq]; exact h2)]
theorem wrR_wide {r : Int} (h : 128 ≤ r) : wrR r = (0, false) := by unfold wrR; rw [if_neg (by omega), if_neg (by omega)]
end Go.Proofs.Ytonedkibbdbgjaa
