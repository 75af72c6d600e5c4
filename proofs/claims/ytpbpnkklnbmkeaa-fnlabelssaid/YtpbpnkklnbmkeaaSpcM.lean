/-
  Labels that leave each other room: plain mathematics.
-/
import Derived.Test.YtpbpnkklnbmkeaaSpcI
namespace Go.Proofs.Ytpbpnkklnbmkeaa
open Go.RowKit Go.Maps

theorem frB_iff {rs : List RmD} {p : RmD} : frB rs p = true ↔ ∀ r ∈ rs, mtB p r = false := by
  unfold frB; simp
theorem spTo_iff : ∀ {ds : List LblD} {rs : List RmD}, spTo rs ds = true ↔ (∀ d ∈ ds, ∀ r ∈ rs, mtB (rmOf d) r = false) ∧ ds.Pairwise (fun a b => mtB (rmOf b) (rmOf a) = false)
  | [], rs => by simp [spTo]
  | d :: t, rs => by
    unfold spTo
    rw [Bool.and_eq_true, frB_iff, spTo_iff (ds := t), List.pairwise_cons]
    constructor
    · rintro ⟨h1, h2, h3⟩
      refine ⟨fun e he r hr => ?_, fun e he => h2 e he _ (by simp), h3⟩
      rcases List.mem_cons.1 he with rfl | he
      · exact h1 r hr
      · exact h2 e he r (by simp [hr])
    · rintro ⟨h1, h2, h3⟩
      refine ⟨h1 d (by simp), fun e he r hr => ?_, h3⟩
      rcases List.mem_append.1 hr with hr | hr
      · exact h1 e (by simp [he]) r hr
      · rw [List.mem_singleton.1 hr]; exact h2 e he
theorem mtB_ov (d e : LblD) : mtB (rmOf d) (rmOf e) = ovB d e := bmB_ov d e
/-- These two are in each other's way. -/
def ovAt (l : List LblD) (ids : List Int) (i k : Nat) (hi : i < l.length) (hk : k < l.length) : Prop := ovB l[i] l[k] = true ∧ l[i].id ∈ ids ∧ l[k].id ∈ ids
theorem spTo_at {l : List LblD} {ids : List Int} : spTo [] (chQ l ids) = true ↔ ∀ i (hi : i < l.length) k (hk : k < i), ¬ ovAt l ids i k hi (by omega) := by
  rw [spTo_iff]
  unfold chQ
  rw [List.pairwise_filter, List.pairwise_iff_getElem]
  constructor
  · rintro ⟨_, h⟩ i hi k hk ⟨h1, h2, h3⟩
    have := h k i (by omega) hi hk (by simpa using h3) (by simpa using h2)
    rw [mtB_ov, h1] at this
    cases this
  · intro h
    refine ⟨(fun _ _ _ hr => nomatch hr), fun k i hk hi hlt h3 h2 => ?_⟩
    rw [mtB_ov]
    cases e : ovB l[i] l[k]
    · rfl
    · exact absurd ⟨e, by simpa using h2, by simpa using h3⟩ (h i hi k hlt)
theorem spQ_false {l : List LblD} {ids : List Int} {i k : Nat} (hi : i < l.length) (hk : k < i) (h : ovAt l ids i k hi (by omega)) : spQ l ids = false := by
  unfold spQ
  cases e : spTo [] (chQ l ids)
  · simp
  · exact absurd h (spTo_at.1 e i hi k hk)
theorem spQ_true {l : List LblD} {ids : List Int} (hp : bP (lblsP l) = true) (h : ∀ i (hi : i < l.length) k (hk : k < i), ¬ ovAt l ids i k hi (by omega)) : spQ l ids = true := by
  unfold spQ
  rw [hp, spTo_at.2 h]; rfl
theorem spQ_no {l : List LblD} {ids : List Int} (hp : bP (lblsP l) = false) : spQ l ids = false := by
  unfold spQ; rw [hp]; rfl
end Go.Proofs.Ytpbpnkklnbmkeaa
