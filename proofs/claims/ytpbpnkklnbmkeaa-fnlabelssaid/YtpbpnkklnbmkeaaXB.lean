/-
  cmp.Compare at numbers, cmp.Or of two; worlds that have grown: contracts.
  Labels in the order in which they are placed, and those that are shown: plain mathematics.
  The first label in turn is shown, and none counts more: plain mathematics.
  Labels that are shown: they leave each other room; what is not shown is in the way of one that counts as much; shown again with what was shown they are the same: plain mathematics.
-/
import Derived.Test.YtpbpnkklnbmkeaaMem
import Derived.Sort.Grow
import Derived.Deep.RegionHeld3
import Derived.Deep.LoopGhost
import Derived.Test.YtpbpnkklnbmkeaaSpcM
import Derived.Shelf.SlSortCmp.NoneTotal
namespace Go.Proofs.Ytpbpnkklnbmkeaa
open Go.RowKit Go.Sort

/-- -1, 0, 1: below, the same, above. -/
def cpz (x y : Int) : Int := if x < y then -1 else if y < x then 1 else 0
def orz (a b : Int) : Int := if a = 0 then b else a

/-- Some draws, some blocks more. -/
def Gw (w w' : World) : Prop := ∃ (q : Nat) (os : Array Obj), w' = grow (w.drewN q) os
theorem Gw.refl (w : World) : Gw w w := ⟨0, #[], by rw [grow_empty]; rfl⟩
theorem Gw.drew {w a : World} (h : Gw w a) : Gw w a.drew := by
  obtain ⟨q, os, rfl⟩ := h
  exact ⟨q + 1, os, rfl⟩
theorem Gw.alloc {w a : World} (h : Gw w a) (o : Obj) : Gw w (a.alloc o) := by
  obtain ⟨q, os, rfl⟩ := h
  exact ⟨q, os ++ #[o], by rw [alloc_eq_grow, grow_grow]⟩
theorem drewN_grow (w : World) (os : Array Obj) (n : Nat) : (grow w os).drewN n = grow (w.drewN n) os := rfl
theorem Gw.step {w a b : World} (h : Gw w a) (k : Gw a b) : Gw w b := by
  obtain ⟨q, os, rfl⟩ := h
  obtain ⟨q', os', rfl⟩ := k
  exact ⟨q + q', os ++ os', by rw [drewN_grow, grow_grow, World.drewN_drewN]⟩
theorem gw_then {w a b : World} (k : Gw a b) (h : Gw w a) : Gw w b := h.step k
theorem bel_grows (w : World) (os : Array Obj) : Bel w (grow w os) :=
  ⟨rfl, rfl, rfl, by simp [grow], fun k hk => by simp [grow, Array.getElem?_append_left hk]⟩
theorem Gw.bel {w a : World} (h : Gw w a) : Bel w a := by
  obtain ⟨q, os, rfl⟩ := h
  exact bel_step (bel_drewN (Bel.refl w) q) (bel_grows _ os)

theorem isNaN64_any (x : Int) (w : World) : Calls Try.prog 70 #[.int .i64 x] w fun e w' => e = .returned (.bool false) ∧ w' = w := by
  go_enter Try.func70, Try.ntmps70
  go_wp2
  go_ret
  exact ⟨by simp, rfl⟩
set_option maxHeartbeats 1000000 in
theorem compare64_any (x y : Int) (w : World) : Calls Try.prog 58 #[.int .i64 x, .int .i64 y] w fun e w' => e = .returned (.int .i64 (cpz x y)) ∧ w' = w := by
  by_cases h1 : x < y
  · have HZ : Hid (cpz x y = -1) := if_pos h1
    go_enter Try.func58, Try.ntmps58
    go_wp2_with (first | (go_at_call 70; refine (isNaN64_any _ _).mono ?_; rintro e w' ⟨rfl, rfl⟩))
    go_ret
    exact ⟨by rw [HZ.out]; rfl, rfl⟩
  · by_cases h2 : y < x
    · have HZ : Hid (cpz x y = 1) := (by unfold cpz; rw [if_neg h1, if_pos h2] : cpz x y = 1)
      go_enter Try.func58, Try.ntmps58
      go_wp2_with (first | (go_at_call 70; refine (isNaN64_any _ _).mono ?_; rintro e w' ⟨rfl, rfl⟩))
      go_ret
      exact ⟨by rw [HZ.out]; rfl, rfl⟩
    · have HZ : Hid (cpz x y = 0) := (by unfold cpz; rw [if_neg h1, if_neg h2] : cpz x y = 0)
      go_enter Try.func58, Try.ntmps58
      go_wp2_with (first | (go_at_call 70; refine (isNaN64_any _ _).mono ?_; rintro e w' ⟨rfl, rfl⟩))
      go_ret
      exact ⟨by rw [HZ.out]; rfl, rfl⟩
/-- How far cmp.Or has come. -/
def OrP (k : Nat) (a b : Int) : Prop := (1 ≤ k → a = 0) ∧ (2 ≤ k → b = 0)
set_option maxHeartbeats 1000000 in
theorem or2_any (B : Nat) (a b : Int) (w : World) (h0 : w.cell? ⟨B, 0, none⟩ = some (.int .i64 a)) (h1 : w.cell? ⟨B, 1, none⟩ = some (.int .i64 b)) :
    Calls Try.prog 57 #[.slice (some ⟨B, 0, none⟩) 2 2] w fun e w' => e = .returned (.int .i64 (orz a b)) ∧ w' = w := by
  go_enter Try.func57, Try.ntmps57
  go_wp2
  go_loopw [5, 8] (fun _ i wr => ∃ k : Nat, k ≤ 2 ∧ i = .int .i64 k ∧ Hid (OrP k a b) ∧ wr = w) (fun _ i _ => 2 - (intOf i).toNat)
  case atStart => exact ⟨0, by omega, rfl, (⟨fun h => by omega, fun h => by omega⟩ : OrP 0 a b), rfl⟩
  case round =>
    obtain ⟨k, hk, rfl, HK, rfl⟩ := hrel
    match k, hk, HK with
    | 0, _, HK =>
      by_cases ha : a = 0
      · subst ha
        have HK1 : Hid (OrP 1 0 b) := ⟨fun _ => rfl, fun h => by omega⟩
        go_wp2
        go_roundw
        case rel => exact ⟨1, by omega, by go_num, HK1, trivial⟩
        case measure => simp [intOf]
      · have HR : Hid (orz a b = a) := if_neg ha
        have hne : (a != 0) = true := by simp [ha]
        have hne' : (a == 0) = false := by simp [ha]
        go_wp2
        go_ret
        exact ⟨ret_num HR.out.symm, rfl⟩
    | 1, _, HK =>
      have ha : a = 0 := HK.out.1 (by omega)
      by_cases hb : b = 0
      · subst hb
        have HK1 : Hid (OrP 2 a 0) := ⟨fun _ => ha, fun _ => rfl⟩
        clear ha
        go_wp2
        go_roundw
        case rel => exact ⟨2, by omega, by go_num, HK1, trivial⟩
        case measure => simp [intOf]
      · have HR : Hid (orz a b = b) := if_pos ha
        have hne : (b != 0) = true := by simp [hb]
        have hne' : (b == 0) = false := by simp [hb]
        clear ha
        go_wp2
        go_ret
        exact ⟨ret_num HR.out.symm, rfl⟩
    | 2, _, HK =>
      have HR : Hid (orz a b = 0) := by
        have h1 := HK.out.1 (by omega)
        have h2 := HK.out.2 (by omega)
        unfold orz; rw [if_pos h1]; exact h2
      go_wp2
      go_ret
      exact ⟨ret_num HR.out.symm, rfl⟩
end Go.Proofs.Ytpbpnkklnbmkeaa

namespace Go.Proofs.Ytpbpnkklnbmkeaa
open Go.RowKit Go.Maps Go.Sort

/-- What a label counts. -/
noncomputable def rkB (bf : List Int) (d : LblD) : Int := if d.id ∈ bf then d.rk + 50 else d.rk
noncomputable def cfP (bf : List Int) (d e : LblD) : Int := orz (cpz (rkB bf e) (rkB bf d)) (cpz d.id e.id)
noncomputable def ltP (bf : List Int) (d e : LblD) : Bool := ltOf (cfP bf) d e
theorem cpz_neg {x y : Int} : cpz x y < 0 ↔ x < y := by unfold cpz; split <;> (try split) <;> omega
theorem cpz_zero {x y : Int} : cpz x y = 0 ↔ x = y := by unfold cpz; split <;> (try split) <;> omega
theorem ltP_iff {bf : List Int} {d e : LblD} : ltP bf d e = true ↔ rkB bf e < rkB bf d ∨ (rkB bf d = rkB bf e ∧ d.id < e.id) := by
  unfold ltP ltOf cfP orz
  rw [decide_eq_true_iff]
  split
  · rename_i h; rw [cpz_zero] at h; rw [cpz_neg]; omega
  · rename_i h; rw [cpz_zero] at h; rw [cpz_neg]; omega
theorem ltP_no {bf : List Int} {d e : LblD} : ltP bf d e = false ↔ ¬ (rkB bf e < rkB bf d ∨ (rkB bf d = rkB bf e ∧ d.id < e.id)) := by
  rw [← ltP_iff]; simp
theorem ltP_swo (bf : List Int) : SWO (ltP bf) where
  irrefl x := by rw [ltP_no]; omega
  trans x y z h1 h2 := by rw [ltP_iff] at *; omega
  ntrans x y z h1 h2 := by rw [ltP_no] at *; omega
noncomputable def leP (bf : List Int) (d e : LblD) : Bool := !ltP bf e d
/-- The labels, in turn. -/
noncomputable def ordQ (bf : List Int) (l : List LblD) : List LblD := l.mergeSort (leP bf)
theorem ordQ_perm (bf : List Int) (l : List LblD) : (ordQ bf l).Perm l := List.mergeSort_perm _ _
theorem ordQ_sorted (bf : List Int) (l : List LblD) : (ordQ bf l).Pairwise (fun x y => leP bf x y = true) := by
  refine List.pairwise_mergeSort ?_ ?_ _
  · intro a b c h1 h2
    unfold leP at *
    simp only [Bool.not_eq_true'] at h1 h2 ⊢
    exact (ltP_swo bf).ntrans c b a h2 h1
  · intro a b
    unfold leP
    rcases Bool.eq_false_or_eq_true (ltP bf b a) with h | h
    · rcases Bool.eq_false_or_eq_true (ltP bf a b) with k | k
      · have := (ltP_swo bf).trans _ _ _ h k
        rw [(ltP_swo bf).irrefl] at this; cases this
      · simp [h, k]
    · simp [h]
theorem lbl_id {l : List LblD} (hp : lblsP l) {a b : LblD} (ha : a ∈ l) (hb : b ∈ l) (h : a.id = b.id) : a = b := by
  obtain ⟨i, hi, rfl⟩ := List.getElem_of_mem ha
  obtain ⟨j, hj, rfl⟩ := List.getElem_of_mem hb
  rcases Nat.lt_trichotomy i j with k | k | k
  · exact absurd h ((hp.2 j hj).2 i k)
  · subst k; rfl
  · exact absurd h.symm ((hp.2 i hi).2 j k)
theorem leP_anti {bf : List Int} {l : List LblD} (hp : lblsP l) {a b : LblD} (ha : a ∈ l) (hb : b ∈ l) (h1 : leP bf a b = true) (h2 : leP bf b a = true) : a = b := by
  refine lbl_id hp ha hb ?_
  unfold leP at h1 h2
  simp only [Bool.not_eq_true'] at h1 h2
  rw [ltP_no] at h1 h2
  omega
/-- What is in turn is one list. -/
theorem ord_uniq {bf : List Int} {l o : List LblD} (hp : lblsP l) (h1 : o.Perm l) (h2 : o.Pairwise (fun x y => leP bf x y = true)) : o = ordQ bf l :=
  List.Perm.eq_of_pairwise (le := fun x y => leP bf x y = true) (fun _ _ ha hb => leP_anti hp (h1.mem_iff.1 ha) ((ordQ_perm bf l).mem_iff.1 hb)) h2 (ordQ_sorted bf l) (h1.trans (ordQ_perm bf l).symm)
theorem ord_arr [Inhabited LblD] {bf : List Int} {l : List LblD} {d' : Array LblD} (hp : lblsP l) (h1 : PermIn 0 l.toArray.size l.toArray d') (h2 : SortedIn (ltP bf) 0 l.toArray.size d') : d'.toList = ordQ bf l := by
  obtain ⟨hsz, _, hperm⟩ := h1
  have e1 : d'.extract 0 l.toArray.size = d' := by rw [← hsz]; exact Array.extract_size
  rw [e1, Array.extract_size] at hperm
  refine ord_uniq hp hperm ?_
  rw [List.pairwise_iff_getElem]
  intro i j hi hj hij
  have hi' : i < d'.size := by simpa using hi
  have hj' : j < d'.size := by simpa using hj
  have := h2 i j (Nat.zero_le _) hij (by omega)
  rw [getElem!_pos d' j hj', getElem!_pos d' i hi'] at this
  unfold leP
  simpa using this
/-- Those that find room, each behind those ahead of it. -/
def plTo : List LblD → List LblD → List LblD
  | s, [] => s
  | s, d :: t => if frB (s.map rmOf) (rmOf d) = true then plTo (s ++ [d]) t else plTo s t
theorem plTo_step {s o : List LblD} {k : Nat} (hk : k < o.length) : plTo s (o.drop k) = if frB (s.map rmOf) (rmOf o[k]) = true then plTo (s ++ [o[k]]) (o.drop (k + 1)) else plTo s (o.drop (k + 1)) := by
  rw [List.drop_eq_getElem_cons hk]; rfl
def ascI (l : List Int) : List Int := l.mergeSort fun x y => decide (x ≤ y)
/-- What Place answers. -/
noncomputable def plQ (l : List LblD) (bf : List Int) : List Int :=
  if bP (lblsP l) = true ∧ bf.length ≤ 500 then ascI ((plTo [] (ordQ bf l)).map (·.id)) else []
theorem plQ_yes {l : List LblD} {bf : List Int} (h : bP (lblsP l) = true) (hb : bf.length ≤ 500) : plQ l bf = ascI ((plTo [] (ordQ bf l)).map (·.id)) := if_pos ⟨h, hb⟩
theorem plQ_no {l : List LblD} {bf : List Int} (h : bP (lblsP l) = false) : plQ l bf = [] := if_neg fun hh => by rw [h] at hh; exact Bool.false_ne_true hh.1
theorem plQ_many {l : List LblD} {bf : List Int} (h : ¬ bf.length ≤ 500) : plQ l bf = [] := if_neg fun hh => h hh.2
theorem plTo_sub : ∀ (t s : List LblD), ∃ r, plTo s t = s ++ r ∧ r.Sublist t
  | [], s => ⟨[], by simp [plTo]⟩
  | d :: t, s => by
    unfold plTo
    split
    · obtain ⟨r, h1, h2⟩ := plTo_sub t (s ++ [d])
      exact ⟨d :: r, by rw [h1, List.append_assoc]; rfl, h2.cons_cons d⟩
    · obtain ⟨r, h1, h2⟩ := plTo_sub t s
      exact ⟨r, h1, h2.cons d⟩
/-- An ascending list of the same numbers is that. -/
theorem asc_uniq {l o : List Int} (h1 : o.Perm l) (h2 : o.Pairwise (· ≤ ·)) : o = ascI l := by
  refine List.Perm.eq_of_pairwise (le := fun x y => decide (x ≤ y) = true) ?_ ?_ ?_ (h1.trans (List.mergeSort_perm _ _).symm)
  · intro a b _ _ h1 h2
    simp only [decide_eq_true_iff] at h1 h2
    omega
  · exact h2.imp (fun h => by simpa using h)
  · refine List.pairwise_mergeSort ?_ ?_ _
    · intro a b c h1 h2
      simp only [decide_eq_true_iff] at *
      omega
    · intro a b
      simp only [Bool.or_eq_true, decide_eq_true_iff]
      omega
theorem ascI_perm (l : List Int) : (ascI l).Perm l := List.mergeSort_perm _ _
theorem plQ_len (l : List LblD) (bf : List Int) : (plQ l bf).length ≤ 500 := by
  unfold plQ
  split
  · rename_i h
    rw [(ascI_perm _).length_eq, List.length_map]
    obtain ⟨r, h1, h2⟩ := plTo_sub (ordQ bf l) []
    rw [h1, List.nil_append]
    have := h2.length_le
    have := (ordQ_perm bf l).length_eq
    have := (bP_out h.1).1
    omega
  · exact Nat.zero_le _
end Go.Proofs.Ytpbpnkklnbmkeaa

namespace Go.Proofs.Ytpbpnkklnbmkeaa
open Go.RowKit Go.Maps Go.Sort

theorem rkB_nil (d : LblD) : rkB [] d = d.rk := by unfold rkB; rw [if_neg (by simp)]
theorem plTo_keep : ∀ (t s : List LblD) {d : LblD}, d ∈ s → d ∈ plTo s t
  | [], _, _, h => h
  | e :: t, s, d, h => by
    unfold plTo
    split
    · exact plTo_keep t _ (List.mem_append_left _ h)
    · exact plTo_keep t _ h
theorem pl_first {l : List LblD} (hp : lblsP l) (h : 0 < l.length) : ∃ d, d ∈ l ∧ d.id ∈ plQ l [] ∧ ∀ e ∈ l, e.rk ≤ d.rk := by
  have hpm := ordQ_perm [] l
  have hs := ordQ_sorted [] l
  cases ho : ordQ [] l with
  | nil => rw [ho] at hpm; have := hpm.length_eq; simp at this; omega
  | cons d t =>
    rw [ho] at hpm hs
    refine ⟨d, hpm.mem_iff.1 (by simp), ?_, fun e he => ?_⟩
    · rw [plQ_yes (bP_true hp) (by simp), ho, (ascI_perm _).mem_iff]
      refine List.mem_map_of_mem ?_
      unfold plTo
      rw [if_pos (by rfl)]
      exact plTo_keep t _ (by simp)
    · rcases List.mem_cons.1 (hpm.mem_iff.2 he) with rfl | h2
      · exact Int.le_refl _
      · have h3 := (List.pairwise_cons.1 hs).1 e h2
        unfold leP at h3
        rw [Bool.not_eq_true', ltP_no, rkB_nil, rkB_nil] at h3
        omega
theorem rkS_ge : ∀ {l : List LblD}, (∀ d ∈ l, lblK d = true) → ∀ d ∈ l, d.rk ≤ rkS l
  | [], _, d, h => nomatch h
  | e :: t, hk, d, h => by
    have h1 := (lblK_out (hk e (by simp))).2.2.2.2.1
    have h2 := (rkS_bd (l := t) (fun d hd => hk d (by simp [hd]))).1
    have h3 : rkS (e :: t) = e.rk + rkS t := by
      have := rkS_app [e] t
      rw [rkS_one] at this
      exact this
    rw [h3]
    rcases List.mem_cons.1 h with rfl | h
    · omega
    · have := rkS_ge (l := t) (fun d hd => hk d (by simp [hd])) d h
      omega
/-- The greatest rank of the first k. -/
def mxR (l : List LblD) : Nat → Int
  | 0 => 0
  | k + 1 => if h : k < l.length then (if l[k].rk > mxR l k then l[k].rk else mxR l k) else mxR l k
theorem mxR_le {l : List LblD} {m : Int} (h0 : 0 ≤ m) (h : ∀ e ∈ l, e.rk ≤ m) : ∀ k, mxR l k ≤ m
  | 0 => h0
  | k + 1 => by
    unfold mxR
    split
    · rename_i hk
      split
      · exact h _ (List.getElem_mem hk)
      · exact mxR_le h0 h k
    · exact mxR_le h0 h k
theorem mxR_bd {l : List LblD} (h : ∀ d ∈ l, lblK d = true) : ∀ k, 0 ≤ mxR l k ∧ mxR l k ≤ 1000
  | 0 => by unfold mxR; omega
  | k + 1 => by
    have := mxR_bd h k
    unfold mxR
    split
    · rename_i hk
      have h2 := (lblK_out (h _ (List.getElem_mem hk))).2.2.2.2
      split <;> omega
    · exact this
/-- What is shown weighs at least as much as any label. -/
theorem wt_most {l : List LblD} (hp : lblsP l) (k : Nat) : mxR l k ≤ wtQ l (plQ l []) := by
  have hK : ∀ d ∈ l, lblK d = true := fun d hd => lblsP_mem hp hd
  unfold wtQ
  rw [if_pos (bP_true hp)]
  have hC : ∀ d ∈ chQ l (plQ l []), lblK d = true := fun d hd => hK d (chQ_mem hd)
  rcases Nat.eq_zero_or_pos l.length with h | h
  · refine mxR_le (rkS_bd hC).1 (fun e he => ?_) k
    have := List.length_eq_zero_iff.1 h
    rw [this] at he; cases he
  · obtain ⟨d, h1, h2, h3⟩ := pl_first hp h
    refine mxR_le (rkS_bd hC).1 (fun e he => ?_) k
    refine Int.le_trans (h3 e he) (rkS_ge hC d ?_)
    exact List.mem_filter.2 ⟨h1, by simpa using h2⟩
end Go.Proofs.Ytpbpnkklnbmkeaa

namespace Go.Proofs.Ytpbpnkklnbmkeaa
open Go.RowKit Go.Maps Go.Sort

theorem mtB_symm (p q : RmD) : mtB p q = mtB q p := by
  rw [Bool.eq_iff_iff, mtB_iff, mtB_iff]
  omega
def Rm2 (a b : LblD) : Prop := mtB (rmOf b) (rmOf a) = false
theorem plTo_pair : ∀ (t s : List LblD), s.Pairwise Rm2 → (plTo s t).Pairwise Rm2
  | [], _, h => h
  | d :: t, s, h => by
    unfold plTo
    split
    · rename_i hf
      refine plTo_pair t _ (List.pairwise_append.2 ⟨h, List.pairwise_singleton _ _, fun a ha b hb => ?_⟩)
      rw [List.mem_singleton.1 hb]
      exact frB_iff.1 hf _ (List.mem_map_of_mem ha)
    · exact plTo_pair t s h
theorem frB_no {rs : List RmD} {p : RmD} (h : ¬ frB rs p = true) : ∃ r ∈ rs, mtB p r = true := by
  rw [frB_iff] at h
  exact Classical.byContradiction fun hh => h fun r hr => by
    cases e : mtB p r
    · rfl
    · exact absurd ⟨r, hr, e⟩ hh
theorem plTo_why {le : LblD → LblD → Prop} : ∀ (t s : List LblD) {d : LblD}, t.Pairwise le → d ∈ t → d ∉ plTo s t → ∃ e ∈ plTo s t, mtB (rmOf d) (rmOf e) = true ∧ (e ∈ s ∨ le e d)
  | [], _, _, _, h, _ => nomatch h
  | x :: t, s, d, hp, hd, hn => by
    obtain ⟨hp1, hp2⟩ := List.pairwise_cons.1 hp
    unfold plTo at hn ⊢
    by_cases hf : frB (s.map rmOf) (rmOf x) = true
    · rw [if_pos hf] at hn ⊢
      rcases List.mem_cons.1 hd with rfl | hd
      · exact absurd (plTo_keep t _ (by simp)) hn
      · obtain ⟨e, h1, h2, h3⟩ := plTo_why t _ hp2 hd hn
        refine ⟨e, h1, h2, ?_⟩
        rcases h3 with h3 | h3
        · rcases List.mem_append.1 h3 with h3 | h3
          · exact .inl h3
          · rw [List.mem_singleton.1 h3]; exact .inr (hp1 d hd)
        · exact .inr h3
    · rw [if_neg hf] at hn ⊢
      rcases List.mem_cons.1 hd with rfl | hd
      · obtain ⟨r, hr, h⟩ := frB_no hf
        obtain ⟨e, he, rfl⟩ := List.mem_map.1 hr
        exact ⟨e, plTo_keep t s he, h, .inl he⟩
      · exact plTo_why t s hp2 hd hn

theorem plTo_mem {bf : List Int} {l : List LblD} {d : LblD} (h : d ∈ plTo [] (ordQ bf l)) : d ∈ l := by
  obtain ⟨r, h1, h2⟩ := plTo_sub (ordQ bf l) []
  rw [h1, List.nil_append] at h
  exact (ordQ_perm bf l).mem_iff.1 (h2.subset h)
/-- An Id is shown just if its label is. -/
theorem shown_iff {bf : List Int} {l : List LblD} (hp : lblsP l) (hb : bf.length ≤ 500) {d : LblD} (hd : d ∈ l) : d.id ∈ plQ l bf ↔ d ∈ plTo [] (ordQ bf l) := by
  rw [plQ_yes (bP_true hp) hb, (ascI_perm _).mem_iff, List.mem_map]
  constructor
  · rintro ⟨e, he, h⟩
    rw [← lbl_id hp (plTo_mem he) hd h]; exact he
  · exact fun h => ⟨d, h, rfl⟩
theorem pair_all {G : List LblD} (h : G.Pairwise Rm2) {a b : LblD} (ha : a ∈ G) (hb : b ∈ G) (hne : a ≠ b) : mtB (rmOf a) (rmOf b) = false := by
  obtain ⟨i, hi, rfl⟩ := List.getElem_of_mem ha
  obtain ⟨j, hj, rfl⟩ := List.getElem_of_mem hb
  rw [List.pairwise_iff_getElem] at h
  rcases Nat.lt_trichotomy i j with k | k | k
  · rw [mtB_symm]; exact h i j hi hj k
  · subst k; exact absurd rfl hne
  · exact h j i hj hi k
/-- What is shown leaves each other room. -/
theorem pl_spaced {bf : List Int} {l : List LblD} (hp : lblsP l) : spQ l (plQ l bf) = true := by
  refine spQ_true (bP_true hp) fun i hi k hk => ?_
  rintro ⟨h1, h2, h3⟩
  by_cases hb : bf.length ≤ 500
  · have a := (shown_iff hp hb (List.getElem_mem hi)).1 h2
    have b := (shown_iff hp hb (List.getElem_mem (by omega : k < l.length))).1 h3
    have hne : l[i] ≠ l[k] := fun e => (hp.2 i hi).2 k hk (by rw [e])
    have := pair_all (plTo_pair _ _ List.Pairwise.nil) a b hne
    rw [mtB_ov, h1] at this
    cases this
  · rw [plQ_many hb] at h2
    cases h2
/-- What is not shown is in the way of one that counts as much. -/
theorem pl_why {bf : List Int} {l : List LblD} (hp : lblsP l) (hb : bf.length ≤ 500) {d : LblD} (hd : d ∈ l) (hn : ¬ d.id ∈ plQ l bf) : ∃ e ∈ l, e.id ∈ plQ l bf ∧ ovB d e = true ∧ rkB bf d ≤ rkB bf e := by
  have h0 : d ∉ plTo [] (ordQ bf l) := fun h => hn ((shown_iff hp hb hd).2 h)
  obtain ⟨e, h1, h2, h3⟩ := plTo_why (le := fun x y => leP bf x y = true) _ _ (ordQ_sorted bf l) ((ordQ_perm bf l).mem_iff.2 hd) h0
  refine ⟨e, plTo_mem h1, (shown_iff hp hb (plTo_mem h1)).2 h1, by rw [← mtB_ov]; exact h2, ?_⟩
  rcases h3 with h3 | h3
  · cases h3
  · unfold leP at h3
    rw [Bool.not_eq_true', ltP_no] at h3
    omega
/-- Who is let in again. -/
theorem plTo_same (G : LblD → Prop) [DecidablePred G] {O : List LblD} (hA : ∀ a b, G a → G b → a ≠ b → mtB (rmOf a) (rmOf b) = false) (hN : O.Nodup)
    (hB : ∀ pre x t, O = pre ++ x :: t → ¬ G x → ∃ e ∈ pre, G e ∧ mtB (rmOf x) (rmOf e) = true) : ∀ (t pre : List LblD), O = pre ++ t → plTo (pre.filter (fun x => decide (G x))) t = O.filter (fun x => decide (G x))
  | [], pre, h => by rw [h, List.append_nil]; rfl
  | x :: t, pre, h => by
    have hO : O = (pre ++ [x]) ++ t := by rw [h]; simp
    have ih := plTo_same G hA hN hB t (pre ++ [x]) hO
    rw [List.filter_append] at ih
    unfold plTo
    by_cases hg : G x
    · have hf : frB ((pre.filter (fun x => decide (G x))).map rmOf) (rmOf x) = true := frB_iff.2 fun r hr => by
        obtain ⟨e, he, rfl⟩ := List.mem_map.1 hr
        obtain ⟨he1, he2⟩ := List.mem_filter.1 he
        refine hA x e hg (by simpa using he2) fun e0 => ?_
        subst e0
        rw [h] at hN
        exact (List.nodup_append.1 hN).2.2 x he1 x (by simp) rfl
      rw [if_pos hf]
      simpa [hg] using ih
    · have hf : ¬ frB ((pre.filter (fun x => decide (G x))).map rmOf) (rmOf x) = true := fun hf => by
        obtain ⟨e, he, h1, h2⟩ := hB pre x t h hg
        have := frB_iff.1 hf (rmOf e) (List.mem_map_of_mem (List.mem_filter.2 ⟨he, by simpa using h1⟩))
        rw [h2] at this
        cases this
      rw [if_neg hf]
      simpa [hg] using ih
theorem lbls_nodL {l : List LblD} (hp : lblsP l) : l.Nodup := by
  rw [List.nodup_iff_pairwise_ne, List.pairwise_iff_getElem]
  intro i j hi hj hij e
  exact (hp.2 j hj).2 i hij (by rw [e])
/-- Shown again with what was shown: the same. -/
theorem pl_again {l : List LblD} (hp : lblsP l) : plQ l (plQ l []) = plQ l [] := by
  classical
  have hb0 : ([] : List Int).length ≤ 500 := by simp
  have hb1 := plQ_len l []
  have hG : ∀ d ∈ l, (d.id ∈ plQ l [] ↔ d ∈ plTo [] (ordQ [] l)) := fun d hd => shown_iff hp hb0 hd
  have hpw : (plTo [] (ordQ [] l)).Pairwise Rm2 := plTo_pair _ _ List.Pairwise.nil
  have hNl : l.Nodup := lbls_nodL hp
  have hNO : (ordQ (plQ l []) l).Nodup := (ordQ_perm _ l).nodup_iff.2 hNl
  have key := plTo_same (fun d => d ∈ plTo [] (ordQ [] l)) (O := ordQ (plQ l []) l) (fun a b ha hb hne => pair_all hpw ha hb hne) hNO (fun pre x t e hx => by
    have hO := ordQ_sorted (plQ l []) l
    have hxl : x ∈ l := (ordQ_perm (plQ l []) l).mem_iff.1 (by rw [e]; simp)
    have hxn : ¬ x.id ∈ plQ l [] := fun h => hx ((hG x hxl).1 h)
    obtain ⟨y, hy, h1, h2, h3⟩ := pl_why hp hb0 hxl hxn
    rw [rkB_nil, rkB_nil] at h3
    have hyG := (hG y hy).1 h1
    refine ⟨y, ?_, hyG, by rw [mtB_ov]; exact h2⟩
    have hyO : y ∈ ordQ (plQ l []) l := (ordQ_perm _ l).mem_iff.2 hy
    rw [e] at hyO hO
    rcases List.mem_append.1 hyO with h | h
    · exact h
    · exfalso
      rcases List.mem_cons.1 h with rfl | h
      · exact hx hyG
      · have := (List.pairwise_cons.1 (List.pairwise_append.1 hO).2.1).1 y h
        unfold leP at this
        rw [Bool.not_eq_true', ltP_no] at this
        refine this (.inl ?_)
        unfold rkB
        rw [if_pos h1, if_neg hxn]
        omega) (ordQ (plQ l []) l) [] rfl
  rw [plQ_yes (bP_true hp) hb1]
  conv => rhs; rw [plQ_yes (bP_true hp) hb0]
  refine asc_uniq ?_ ?_
  · refine (ascI_perm _).trans ?_
    refine List.Perm.map _ ?_
    have k1 : plTo [] (ordQ (plQ l []) l) = (ordQ (plQ l []) l).filter (fun x => decide (x ∈ plTo [] (ordQ [] l))) := by simpa using key
    rw [k1]
    have n2 : (plTo [] (ordQ [] l)).Nodup := by
      obtain ⟨r, h1, h2⟩ := plTo_sub (ordQ [] l) []
      rw [h1, List.nil_append]
      exact ((ordQ_perm [] l).nodup_iff.2 hNl).sublist h2
    refine (List.perm_ext_iff_of_nodup (hNO.filter _) n2).2 fun d => ?_
    rw [List.mem_filter]
    constructor
    · exact fun h => by simpa using h.2
    · exact fun h => ⟨(ordQ_perm _ l).mem_iff.2 (plTo_mem h), by simpa using h⟩
  · have := List.pairwise_mergeSort (le := fun x y : Int => decide (x ≤ y)) (fun a b c h1 h2 => by simp only [decide_eq_true_iff] at *; omega) (fun a b => by simp only [Bool.or_eq_true, decide_eq_true_iff]; omega) ((plTo [] (ordQ (plQ l []) l)).map (·.id))
    exact this.imp (fun h => by simpa using h)
end Go.Proofs.Ytpbpnkklnbmkeaa
