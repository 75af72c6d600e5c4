/-
  cmp.Compare at numbers, cmp.Or of two; worlds that have grown: contracts.
  Labels in the order in which they are placed, and those that are shown: plain mathematics.
  What a label counts, and how two are compared: the program's closures.
  slices.SortFunc at labels, by the shelf: the row holds them in turn.
  The labels in the order in which they are placed: the program's contract.
-/
import Derived.Test.YtpbpnkklnbmkeaaMem
import Derived.Sort.Grow
import Derived.Deep.RegionHeld3
import Derived.Deep.LoopGhost
import Derived.Test.YtpbpnkklnbmkeaaSpcM
import Derived.Shelf.SlSortCmp.NoneTotal
import Derived.Test.YtpbpnkklnbmkeaaGrowC
import Derived.Ground.SlsfProg
import Derived.Shelf.Lay
import Derived.Test.YtpbpnkklnbmkeaaRowH
namespace Go.Proofs.Ytpbpnkklnbmkeaa
open Go.RowKit Go.Sort

/-- -1, 0, 1: below, the same, above. -/
def cpz (x y : Int) : Int := if x < y then -1 else if y < x then 1 else 0
def orz (a b : Int) : Int := if a = 0 then b else a

/-- Some draws, some blocks more. -/
def Gw (w w' : World) : Prop := ∃ (q : Nat) (os : Array Obj), w' = grow (w.drewN q) os
theorem Gw.refl (w : World) : Gw w w := ⟨0, #[], by rw [grow_empty]; rfl⟩
theorem Gw.drew {w a : World} (h : Gw w a) : Gw w a.drew := by
  obtain ⟨q, os, rfl⟩ := h
  exact ⟨q + 1, os, rfl⟩
theorem Gw.alloc {w a : World} (h : Gw w a) (o : Obj) : Gw w (a.alloc o) := by
  obtain ⟨q, os, rfl⟩ := h
  exact ⟨q, os ++ #[o], by rw [alloc_eq_grow, grow_grow]⟩
theorem drewN_grow (w : World) (os : Array Obj) (n : Nat) : (grow w os).drewN n = grow (w.drewN n) os := rfl
theorem Gw.step {w a b : World} (h : Gw w a) (k : Gw a b) : Gw w b := by
  obtain ⟨q, os, rfl⟩ := h
  obtain ⟨q', os', rfl⟩ := k
  exact ⟨q + q', os ++ os', by rw [drewN_grow, grow_grow, World.drewN_drewN]⟩
theorem gw_then {w a b : World} (k : Gw a b) (h : Gw w a) : Gw w b := h.step k
theorem bel_grows (w : World) (os : Array Obj) : Bel w (grow w os) :=
  ⟨rfl, rfl, rfl, by simp [grow], fun k hk => by simp [grow, Array.getElem?_append_left hk]⟩
theorem Gw.bel {w a : World} (h : Gw w a) : Bel w a := by
  obtain ⟨q, os, rfl⟩ := h
  exact bel_step (bel_drewN (Bel.refl w) q) (bel_grows _ os)

theorem isNaN64_any (x : Int) (w : World) : Calls Try.prog 70 #[.int .i64 x] w fun e w' => e = .returned (.bool false) ∧ w' = w := by
  go_enter Try.func70, Try.ntmps70
  go_wp2
  go_ret
  exact ⟨by simp, rfl⟩
set_option maxHeartbeats 1000000 in
theorem compare64_any (x y : Int) (w : World) : Calls Try.prog 58 #[.int .i64 x, .int .i64 y] w fun e w' => e = .returned (.int .i64 (cpz x y)) ∧ w' = w := by
  by_cases h1 : x < y
  · have HZ : Hid (cpz x y = -1) := if_pos h1
    go_enter Try.func58, Try.ntmps58
    go_wp2_with (first | (go_at_call 70; refine (isNaN64_any _ _).mono ?_; rintro e w' ⟨rfl, rfl⟩))
    go_ret
    exact ⟨by rw [HZ.out]; rfl, rfl⟩
  · by_cases h2 : y < x
    · have HZ : Hid (cpz x y = 1) := (by unfold cpz; rw [if_neg h1, if_pos h2] : cpz x y = 1)
      go_enter Try.func58, Try.ntmps58
      go_wp2_with (first | (go_at_call 70; refine (isNaN64_any _ _).mono ?_; rintro e w' ⟨rfl, rfl⟩))
      go_ret
      exact ⟨by rw [HZ.out]; rfl, rfl⟩
    · have HZ : Hid (cpz x y = 0) := (by unfold cpz; rw [if_neg h1, if_neg h2] : cpz x y = 0)
      go_enter Try.func58, Try.ntmps58
      go_wp2_with (first | (go_at_call 70; refine (isNaN64_any _ _).mono ?_; rintro e w' ⟨rfl, rfl⟩))
      go_ret
      exact ⟨by rw [HZ.out]; rfl, rfl⟩
/-- How far cmp.Or has come. -/
def OrP (k : Nat) (a b : Int) : Prop := (1 ≤ k → a = 0) ∧ (2 ≤ k → b = 0)
set_option maxHeartbeats 1000000 in
theorem or2_any (B : Nat) (a b : Int) (w : World) (h0 : w.cell? ⟨B, 0, none⟩ = some (.int .i64 a)) (h1 : w.cell? ⟨B, 1, none⟩ = some (.int .i64 b)) :
    Calls Try.prog 57 #[.slice (some ⟨B, 0, none⟩) 2 2] w fun e w' => e = .returned (.int .i64 (orz a b)) ∧ w' = w := by
  go_enter Try.func57, Try.ntmps57
  go_wp2
  go_loopw [5, 8] (fun _ i wr => ∃ k : Nat, k ≤ 2 ∧ i = .int .i64 k ∧ Hid (OrP k a b) ∧ wr = w) (fun _ i _ => 2 - (intOf i).toNat)
  case atStart => exact ⟨0, by omega, rfl, (⟨fun h => by omega, fun h => by omega⟩ : OrP 0 a b), rfl⟩
  case round =>
    obtain ⟨k, hk, rfl, HK, rfl⟩ := hrel
    match k, hk, HK with
    | 0, _, HK =>
      by_cases ha : a = 0
      · subst ha
        have HK1 : Hid (OrP 1 0 b) := ⟨fun _ => rfl, fun h => by omega⟩
        go_wp2
        go_roundw
        case rel => exact ⟨1, by omega, by go_num, HK1, trivial⟩
        case measure => simp [intOf]
      · have HR : Hid (orz a b = a) := if_neg ha
        have hne : (a != 0) = true := by simp [ha]
        have hne' : (a == 0) = false := by simp [ha]
        go_wp2
        go_ret
        exact ⟨ret_num HR.out.symm, rfl⟩
    | 1, _, HK =>
      have ha : a = 0 := HK.out.1 (by omega)
      by_cases hb : b = 0
      · subst hb
        have HK1 : Hid (OrP 2 a 0) := ⟨fun _ => ha, fun _ => rfl⟩
        clear ha
        go_wp2
        go_roundw
        case rel => exact ⟨2, by omega, by go_num, HK1, trivial⟩
        case measure => simp [intOf]
      · have HR : Hid (orz a b = b) := if_pos ha
        have hne : (b != 0) = true := by simp [hb]
        have hne' : (b == 0) = false := by simp [hb]
        clear ha
        go_wp2
        go_ret
        exact ⟨ret_num HR.out.symm, rfl⟩
    | 2, _, HK =>
      have HR : Hid (orz a b = 0) := by
        have h1 := HK.out.1 (by omega)
        have h2 := HK.out.2 (by omega)
        unfold orz; rw [if_pos h1]; exact h2
      go_wp2
      go_ret
      exact ⟨ret_num HR.out.symm, rfl⟩
end Go.Proofs.Ytpbpnkklnbmkeaa

namespace Go.Proofs.Ytpbpnkklnbmkeaa
open Go.RowKit Go.Maps Go.Sort

/-- What a label counts. -/
noncomputable def rkB (bf : List Int) (d : LblD) : Int := if d.id ∈ bf then d.rk + 50 else d.rk
noncomputable def cfP (bf : List Int) (d e : LblD) : Int := orz (cpz (rkB bf e) (rkB bf d)) (cpz d.id e.id)
noncomputable def ltP (bf : List Int) (d e : LblD) : Bool := ltOf (cfP bf) d e
theorem cpz_neg {x y : Int} : cpz x y < 0 ↔ x < y := by unfold cpz; split <;> (try split) <;> omega
theorem cpz_zero {x y : Int} : cpz x y = 0 ↔ x = y := by unfold cpz; split <;> (try split) <;> omega
theorem ltP_iff {bf : List Int} {d e : LblD} : ltP bf d e = true ↔ rkB bf e < rkB bf d ∨ (rkB bf d = rkB bf e ∧ d.id < e.id) := by
  unfold ltP ltOf cfP orz
  rw [decide_eq_true_iff]
  split
  · rename_i h; rw [cpz_zero] at h; rw [cpz_neg]; omega
  · rename_i h; rw [cpz_zero] at h; rw [cpz_neg]; omega
theorem ltP_no {bf : List Int} {d e : LblD} : ltP bf d e = false ↔ ¬ (rkB bf e < rkB bf d ∨ (rkB bf d = rkB bf e ∧ d.id < e.id)) := by
  rw [← ltP_iff]; simp
theorem ltP_swo (bf : List Int) : SWO (ltP bf) where
  irrefl x := by rw [ltP_no]; omega
  trans x y z h1 h2 := by rw [ltP_iff] at *; omega
  ntrans x y z h1 h2 := by rw [ltP_no] at *; omega
noncomputable def leP (bf : List Int) (d e : LblD) : Bool := !ltP bf e d
/-- The labels, in turn. -/
noncomputable def ordQ (bf : List Int) (l : List LblD) : List LblD := l.mergeSort (leP bf)
theorem ordQ_perm (bf : List Int) (l : List LblD) : (ordQ bf l).Perm l := List.mergeSort_perm _ _
theorem ordQ_sorted (bf : List Int) (l : List LblD) : (ordQ bf l).Pairwise (fun x y => leP bf x y = true) := by
  refine List.pairwise_mergeSort ?_ ?_ _
  · intro a b c h1 h2
    unfold leP at *
    simp only [Bool.not_eq_true'] at h1 h2 ⊢
    exact (ltP_swo bf).ntrans c b a h2 h1
  · intro a b
    unfold leP
    rcases Bool.eq_false_or_eq_true (ltP bf b a) with h | h
    · rcases Bool.eq_false_or_eq_true (ltP bf a b) with k | k
      · have := (ltP_swo bf).trans _ _ _ h k
        rw [(ltP_swo bf).irrefl] at this; cases this
      · simp [h, k]
    · simp [h]
theorem lbl_id {l : List LblD} (hp : lblsP l) {a b : LblD} (ha : a ∈ l) (hb : b ∈ l) (h : a.id = b.id) : a = b := by
  obtain ⟨i, hi, rfl⟩ := List.getElem_of_mem ha
  obtain ⟨j, hj, rfl⟩ := List.getElem_of_mem hb
  rcases Nat.lt_trichotomy i j with k | k | k
  · exact absurd h ((hp.2 j hj).2 i k)
  · subst k; rfl
  · exact absurd h.symm ((hp.2 i hi).2 j k)
theorem leP_anti {bf : List Int} {l : List LblD} (hp : lblsP l) {a b : LblD} (ha : a ∈ l) (hb : b ∈ l) (h1 : leP bf a b = true) (h2 : leP bf b a = true) : a = b := by
  refine lbl_id hp ha hb ?_
  unfold leP at h1 h2
  simp only [Bool.not_eq_true'] at h1 h2
  rw [ltP_no] at h1 h2
  omega
/-- What is in turn is one list. -/
theorem ord_uniq {bf : List Int} {l o : List LblD} (hp : lblsP l) (h1 : o.Perm l) (h2 : o.Pairwise (fun x y => leP bf x y = true)) : o = ordQ bf l :=
  List.Perm.eq_of_pairwise (le := fun x y => leP bf x y = true) (fun _ _ ha hb => leP_anti hp (h1.mem_iff.1 ha) ((ordQ_perm bf l).mem_iff.1 hb)) h2 (ordQ_sorted bf l) (h1.trans (ordQ_perm bf l).symm)
theorem ord_arr [Inhabited LblD] {bf : List Int} {l : List LblD} {d' : Array LblD} (hp : lblsP l) (h1 : PermIn 0 l.toArray.size l.toArray d') (h2 : SortedIn (ltP bf) 0 l.toArray.size d') : d'.toList = ordQ bf l := by
  obtain ⟨hsz, _, hperm⟩ := h1
  have e1 : d'.extract 0 l.toArray.size = d' := by rw [← hsz]; exact Array.extract_size
  rw [e1, Array.extract_size] at hperm
  refine ord_uniq hp hperm ?_
  rw [List.pairwise_iff_getElem]
  intro i j hi hj hij
  have hi' : i < d'.size := by simpa using hi
  have hj' : j < d'.size := by simpa using hj
  have := h2 i j (Nat.zero_le _) hij (by omega)
  rw [getElem!_pos d' j hj', getElem!_pos d' i hi'] at this
  unfold leP
  simpa using this
/-- Those that find room, each behind those ahead of it. -/
def plTo : List LblD → List LblD → List LblD
  | s, [] => s
  | s, d :: t => if frB (s.map rmOf) (rmOf d) = true then plTo (s ++ [d]) t else plTo s t
theorem plTo_step {s o : List LblD} {k : Nat} (hk : k < o.length) : plTo s (o.drop k) = if frB (s.map rmOf) (rmOf o[k]) = true then plTo (s ++ [o[k]]) (o.drop (k + 1)) else plTo s (o.drop (k + 1)) := by
  rw [List.drop_eq_getElem_cons hk]; rfl
def ascI (l : List Int) : List Int := l.mergeSort fun x y => decide (x ≤ y)
/-- What Place answers. -/
noncomputable def plQ (l : List LblD) (bf : List Int) : List Int :=
  if bP (lblsP l) = true ∧ bf.length ≤ 500 then ascI ((plTo [] (ordQ bf l)).map (·.id)) else []
theorem plQ_yes {l : List LblD} {bf : List Int} (h : bP (lblsP l) = true) (hb : bf.length ≤ 500) : plQ l bf = ascI ((plTo [] (ordQ bf l)).map (·.id)) := if_pos ⟨h, hb⟩
theorem plQ_no {l : List LblD} {bf : List Int} (h : bP (lblsP l) = false) : plQ l bf = [] := if_neg fun hh => by rw [h] at hh; exact Bool.false_ne_true hh.1
theorem plQ_many {l : List LblD} {bf : List Int} (h : ¬ bf.length ≤ 500) : plQ l bf = [] := if_neg fun hh => h hh.2
theorem plTo_sub : ∀ (t s : List LblD), ∃ r, plTo s t = s ++ r ∧ r.Sublist t
  | [], s => ⟨[], by simp [plTo]⟩
  | d :: t, s => by
    unfold plTo
    split
    · obtain ⟨r, h1, h2⟩ := plTo_sub t (s ++ [d])
      exact ⟨d :: r, by rw [h1, List.append_assoc]; rfl, h2.cons_cons d⟩
    · obtain ⟨r, h1, h2⟩ := plTo_sub t s
      exact ⟨r, h1, h2.cons d⟩
/-- An ascending list of the same numbers is that. -/
theorem asc_uniq {l o : List Int} (h1 : o.Perm l) (h2 : o.Pairwise (· ≤ ·)) : o = ascI l := by
  refine List.Perm.eq_of_pairwise (le := fun x y => decide (x ≤ y) = true) ?_ ?_ ?_ (h1.trans (List.mergeSort_perm _ _).symm)
  · intro a b _ _ h1 h2
    simp only [decide_eq_true_iff] at h1 h2
    omega
  · exact h2.imp (fun h => by simpa using h)
  · refine List.pairwise_mergeSort ?_ ?_ _
    · intro a b c h1 h2
      simp only [decide_eq_true_iff] at *
      omega
    · intro a b
      simp only [Bool.or_eq_true, decide_eq_true_iff]
      omega
theorem ascI_perm (l : List Int) : (ascI l).Perm l := List.mergeSort_perm _ _
theorem plQ_len (l : List LblD) (bf : List Int) : (plQ l bf).length ≤ 500 := by
  unfold plQ
  split
  · rename_i h
    rw [(ascI_perm _).length_eq, List.length_map]
    obtain ⟨r, h1, h2⟩ := plTo_sub (ordQ bf l) []
    rw [h1, List.nil_append]
    have := h2.length_le
    have := (ordQ_perm bf l).length_eq
    have := (bP_out h.1).1
    omega
  · exact Nat.zero_le _
end Go.Proofs.Ytpbpnkklnbmkeaa

namespace Go.Proofs.Ytpbpnkklnbmkeaa
open Go.RowKit Go.Maps Go.Sort

theorem hasG_any (b n : Nat) (s : Int → Prop) (x : Int) (w : World) (hS : SetAt w b n s) (hx : In64 x) :
    Calls Try.prog 30 #[.map (some b), .int .i64 x] w fun e w' => e = .returned (.bool (bP (s x))) ∧ Gw w w' := by
  have hl := hS.look hx
  go_enter Try.func30, Try.ntmps30
  go_wp2
  go_ret
  exact ⟨rfl, (Gw.refl _).alloc _⟩
set_option maxRecDepth 100000 in
set_option maxHeartbeats 1000000 in
theorem counts_any (B b n : Nat) (s : Int → Prop) (bf : List Int) (d : LblD) (w : World) (hS : SetAt w b n s) (hs : ∀ y, s y ↔ y ∈ bf) (hB : w.cell? ⟨B, 0, none⟩ = some (.map (some b))) (hBl : B < w.heap.size) (hd : In64 d.id) (hr : 0 ≤ d.rk ∧ d.rk ≤ 1000) :
    Calls Try.prog 53 #[lbv d, .pointer (some ⟨B, 0, none⟩)] w fun e w' => e = .returned (.int .i64 (rkB bf d)) ∧ Gw w w' := by
  obtain ⟨W, HW⟩ : ∃ W, Hid (W = w.alloc (.cells #[.int .i64 d.id, .int .i64 d.x, .int .i64 d.y, .int .i64 d.wd, .int .i64 d.ht, .int .i64 d.rk] 33)) := ⟨_, (rfl : w.alloc (.cells #[.int .i64 d.id, .int .i64 d.x, .int .i64 d.y, .int .i64 d.wd, .int .i64 d.ht, .int .i64 d.rk] 33) = _)⟩
  have hG : Gw w W := by rw [HW.out]; exact (Gw.refl w).alloc _
  have X : Blk W w.heap.size [.int .i64 d.id, .int .i64 d.x, .int .i64 d.y, .int .i64 d.wd, .int .i64 d.ht, .int .i64 d.rk] := by rw [HW.out]; exact Blk.new w [.int .i64 d.id, .int .i64 d.x, .int .i64 d.y, .int .i64 d.wd, .int .i64 d.ht, .int .i64 d.rk] _
  have hSW := hS.bel hG.bel
  have x0 : W.cell? ⟨w.heap.size, 0, none⟩ = some (.int .i64 d.id) := X.cell 0 (by simp)
  have y0 : W.cell? ⟨B, 0, none⟩ = some (.map (some b)) := bel_cellM hG.bel hBl hB
  obtain ⟨d1, r, hd1⟩ : ∃ (i r : Int), Hid (i = d.id ∧ r = d.rk) := ⟨_, _, (⟨rfl, rfl⟩ : d.id = d.id ∧ d.rk = d.rk)⟩
  have HX : Hid (Blk W w.heap.size [.int .i64 d.id, .int .i64 d.x, .int .i64 d.y, .int .i64 d.wd, .int .i64 d.ht, .int .i64 r]) := by rw [hd1.out.2]; exact X
  have hr2 : 0 ≤ r ∧ r ≤ 1000 := by rw [hd1.out.2]; exact hr
  have xl := X.lt
  clear hS X hB
  go_enter Try.func53, Try.ntmps53
  go_upto_region 1 with fail
  rw [← HW.out]
  go_wp2_with fail
  refine (hasG_any b n s d.id _ hSW hd).mono ?_
  rintro e w1 ⟨rfl, hb1⟩
  have hG1 := hG.step hb1
  have X1 := HX.out.bel hb1.bel
  have x5 : w1.cell? ⟨w.heap.size, 5, none⟩ = some (.int .i64 r) := X1.cell 5 (by simp)
  have x5l := X1.lt
  by_cases hm : d.id ∈ bf
  · have HR : Hid (r + 50 = rkB bf d) := (by unfold rkB; rw [if_pos hm, hd1.out.2] : r + 50 = rkB bf d)
    rw [bP_true ((hs d.id).2 hm)]
    clear x0 y0
    go_wp2
    go_ret
    exact ⟨ret_num HR.out, hG1⟩
  · have HR : Hid (r = rkB bf d) := (by unfold rkB; rw [if_neg hm, hd1.out.2] : r = rkB bf d)
    rw [bP_false (fun h => hm ((hs d.id).1 h))]
    clear x0 y0
    go_wp2
    go_ret
    exact ⟨ret_num HR.out, hG1⟩
set_option maxRecDepth 100000 in
set_option maxHeartbeats 2000000 in
theorem turnCmp_any (C B b n : Nat) (s : Int → Prop) (bf : List Int) (d f : LblD) (w : World) (hS : SetAt w b n s) (hs : ∀ y, s y ↔ y ∈ bf) (hB : w.cell? ⟨B, 0, none⟩ = some (.map (some b))) (hBl : B < w.heap.size)
    (hC : w.cell? ⟨C, 0, none⟩ = some (.func (.func 53) #[] #[.pointer (some ⟨B, 0, none⟩)])) (hCl : C < w.heap.size) (hd : In64 d.id) (hr : 0 ≤ d.rk ∧ d.rk ≤ 1000) (hf : In64 f.id) (hg : 0 ≤ f.rk ∧ f.rk ≤ 1000) :
    Calls Try.prog 56 #[lbv d, lbv f, .pointer (some ⟨C, 0, none⟩)] w fun e w' => e = .returned (.int .i64 (cfP bf d f)) ∧ Gw w w' := by
  obtain ⟨W, HW⟩ : ∃ W, Hid (W = (w.alloc (.cells #[.int .i64 d.id, .int .i64 d.x, .int .i64 d.y, .int .i64 d.wd, .int .i64 d.ht, .int .i64 d.rk] 33)).alloc (.cells #[.int .i64 f.id, .int .i64 f.x, .int .i64 f.y, .int .i64 f.wd, .int .i64 f.ht, .int .i64 f.rk] 33)) := ⟨_, (rfl : (w.alloc (.cells #[.int .i64 d.id, .int .i64 d.x, .int .i64 d.y, .int .i64 d.wd, .int .i64 d.ht, .int .i64 d.rk] 33)).alloc (.cells #[.int .i64 f.id, .int .i64 f.x, .int .i64 f.y, .int .i64 f.wd, .int .i64 f.ht, .int .i64 f.rk] 33) = _)⟩
  have hG : Gw w W := by rw [HW.out]; exact ((Gw.refl w).alloc _).alloc _
  have X0 : Blk W w.heap.size [.int .i64 d.id, .int .i64 d.x, .int .i64 d.y, .int .i64 d.wd, .int .i64 d.ht, .int .i64 d.rk] := by rw [HW.out]; exact (Blk.new w [.int .i64 d.id, .int .i64 d.x, .int .i64 d.y, .int .i64 d.wd, .int .i64 d.ht, .int .i64 d.rk] _).bel (bel_alloc (Bel.refl _) _)
  have X1 : Blk W (w.heap.size + 1) [.int .i64 f.id, .int .i64 f.x, .int .i64 f.y, .int .i64 f.wd, .int .i64 f.ht, .int .i64 f.rk] := by rw [HW.out]; exact Blk.new1 w _ [.int .i64 f.id, .int .i64 f.x, .int .i64 f.y, .int .i64 f.wd, .int .i64 f.ht, .int .i64 f.rk] _
  have hR : ∀ w', Gw W w' → w'.cell? ⟨C, 0, none⟩ = some (.func (.func 53) #[] #[.pointer (some ⟨B, 0, none⟩)]) ∧ w'.cell? ⟨w.heap.size, 0, none⟩ = some (.int .i64 d.id) ∧ w'.cell? ⟨w.heap.size, 1, none⟩ = some (.int .i64 d.x) ∧ w'.cell? ⟨w.heap.size, 2, none⟩ = some (.int .i64 d.y) ∧ w'.cell? ⟨w.heap.size, 3, none⟩ = some (.int .i64 d.wd) ∧ w'.cell? ⟨w.heap.size, 4, none⟩ = some (.int .i64 d.ht) ∧ w'.cell? ⟨w.heap.size, 5, none⟩ = some (.int .i64 d.rk) ∧ w'.cell? ⟨w.heap.size + 1, 0, none⟩ = some (.int .i64 f.id) ∧ w'.cell? ⟨w.heap.size + 1, 1, none⟩ = some (.int .i64 f.x) ∧ w'.cell? ⟨w.heap.size + 1, 2, none⟩ = some (.int .i64 f.y) ∧ w'.cell? ⟨w.heap.size + 1, 3, none⟩ = some (.int .i64 f.wd) ∧ w'.cell? ⟨w.heap.size + 1, 4, none⟩ = some (.int .i64 f.ht) ∧ w'.cell? ⟨w.heap.size + 1, 5, none⟩ = some (.int .i64 f.rk) := fun w' h =>
    ⟨bel_cellM (hG.step h).bel hCl hC, (X0.bel h.bel).cell 0 (by simp), (X0.bel h.bel).cell 1 (by simp), (X0.bel h.bel).cell 2 (by simp), (X0.bel h.bel).cell 3 (by simp), (X0.bel h.bel).cell 4 (by simp), (X0.bel h.bel).cell 5 (by simp), (X1.bel h.bel).cell 0 (by simp), (X1.bel h.bel).cell 1 (by simp), (X1.bel h.bel).cell 2 (by simp), (X1.bel h.bel).cell 3 (by simp), (X1.bel h.bel).cell 4 (by simp), (X1.bel h.bel).cell 5 (by simp)⟩
  have k1 : ∀ w', Gw W w' → Calls Try.prog 53 #[lbv d, .pointer (some ⟨B, 0, none⟩)] w' fun e w'' => e = .returned (.int .i64 (rkB bf d)) ∧ Gw w' w'' := fun w' h => counts_any B b n s bf d w' (hS.bel (hG.step h).bel) hs (bel_cellM (hG.step h).bel hBl hB) (Nat.lt_of_lt_of_le hBl (hG.step h).bel.out.size) hd hr
  have k2 : ∀ w', Gw W w' → Calls Try.prog 53 #[lbv f, .pointer (some ⟨B, 0, none⟩)] w' fun e w'' => e = .returned (.int .i64 (rkB bf f)) ∧ Gw w' w'' := fun w' h => counts_any B b n s bf f w' (hS.bel (hG.step h).bel) hs (bel_cellM (hG.step h).bel hBl hB) (Nat.lt_of_lt_of_le hBl (hG.step h).bel.out.size) hf hg
  have HO0 : Hid (orz (cpz (rkB bf f) (rkB bf d)) (cpz d.id f.id) = cfP bf d f) := (rfl : orz (cpz (rkB bf f) (rkB bf d)) (cpz d.id f.id) = cfP bf d f)
  obtain ⟨u, Hu⟩ : ∃ u, Hid (rkB bf d = u) := ⟨_, (rfl : rkB bf d = _)⟩
  obtain ⟨v, Hv⟩ : ∃ u, Hid (rkB bf f = u) := ⟨_, (rfl : rkB bf f = _)⟩
  rw [Hu.out] at k1
  rw [Hv.out] at k2
  obtain ⟨p, Hp⟩ : ∃ p, Hid (cpz v u = p) := ⟨_, (rfl : cpz v u = _)⟩
  obtain ⟨q, Hq⟩ : ∃ p, Hid (cpz d.id f.id = p) := ⟨_, (rfl : cpz d.id f.id = _)⟩
  have HO : Hid (orz p q = cfP bf d f) := by rw [← HO0.out, Hu.out, Hv.out, Hp.out, Hq.out]; exact rfl
  have c1 : ∀ w, Calls Try.prog 58 #[.int .i64 v, .int .i64 u] w fun e w' => e = .returned (.int .i64 p) ∧ w' = w := fun w => by rw [← Hp.out]; exact compare64_any _ _ _
  have c2 : ∀ w, Calls Try.prog 58 #[.int .i64 d.id, .int .i64 f.id] w fun e w' => e = .returned (.int .i64 q) ∧ w' = w := fun w => by rw [← Hq.out]; exact compare64_any _ _ _
  have g0 : Gw W W := Gw.refl _
  clear X0 X1 hS hB hC
  go_enter Try.func56, Try.ntmps56
  go_wp2
  rw [← HW.out]
  go_region_held3 (fun w' => Gw W w') (with_reducible (repeat (first | assumption | exact g0 | refine Gw.drew ?_ | refine Gw.alloc ?_ _ | refine gw_then (by assumption) ?_)))
    (first
      | (go_at_call 53; with_reducible refine (k2 _ (by with_reducible (repeat (first | assumption | exact g0 | refine Gw.drew ?_ | refine Gw.alloc ?_ _ | refine gw_then (by assumption) ?_)))).mono ?_; rintro e w3 ⟨rfl, hb3⟩)
      | (go_at_call 53; with_reducible refine (k1 _ (by with_reducible (repeat (first | assumption | exact g0 | refine Gw.drew ?_ | refine Gw.alloc ?_ _ | refine gw_then (by assumption) ?_)))).mono ?_; rintro e w4 ⟨rfl, hb4⟩)
      | (go_at_call 58; with_reducible refine (c1 _).mono ?_; rintro e w' ⟨rfl, rfl⟩)
      | (go_at_call 58; with_reducible refine (c2 _).mono ?_; rintro e w' ⟨rfl, rfl⟩)
      | (go_at_call 57; refine (or2_any _ p q _ (by simp) (by simp)).mono ?_; rintro e w' ⟨rfl, rfl⟩))
  all_goals
    go_wp2
    go_ret
    exact ⟨ret_num HO.out, hG.step (by with_reducible (repeat (first | assumption | refine Gw.drew ?_ | refine Gw.alloc ?_ _)))⟩
end Go.Proofs.Ytpbpnkklnbmkeaa

namespace Go.Proofs.Ytpbpnkklnbmkeaa
open Go.RowKit Go.Maps Go.Sort Go.Shelf Go.Lib
shelf_lay_g SlLaysF0.n6 Slsf 6 at Try 55 as Try.sortLb

theorem flat_nilS {β : Type} (n : Nat) : (List.range n).flatMap (fun _ => ([] : List β)) = [] := List.flatMap_eq_nil_iff.2 fun _ _ => rfl
/-- A flat row as the sort's kit says it. -/
theorem sl_holds {α β : Type} [Inhabited β] {q : Nat} {E : Elem α} {G : α → Prop} {cs : α → List Value} (hF : Flat q E G cs) (v : β → α) {w : World} {a : Option Addr} {l : List β} {bs : List Nat} (h : Sl q E w a (l.map v) bs) (hl : 0 < l.length) (hfz : ∀ x ∈ bs, ∀ j, w.frozen? ⟨x, j, none⟩ = false) :
    ∃ b off, a = some ⟨b, off, none⟩ ∧ b ∈ bs ∧ b < w.heap.size ∧ HoldsK (fun x => cs (v x)) q w b off l.toArray := by
  rcases h with ⟨h0, _⟩ | ⟨b, off, f, rfl, hb, rfl, hx⟩
  · rw [List.map_eq_nil_iff] at h0; rw [h0] at hl; cases hl
  · refine ⟨b, off, rfl, by simp, hb, fun t ht => ⟨?_, hfz b (by simp) _⟩⟩
    rw [size_flatK, List.size_toArray] at ht
    have hq : 0 < q := by rcases Nat.eq_zero_or_pos q with h | h; · rw [h] at ht; omega
                          · exact h
    have hi : t / q < l.length := (Nat.div_lt_iff_lt_mul hq).2 ht
    have hm : t % q < q := Nat.mod_lt _ hq
    have h1 := (hF.get (hx (t / q) (by rw [List.length_map]; exact hi))).2 (t % q) (by rw [hF.len]; exact hm)
    have e : t / q * q + t % q = t := by rw [Nat.mul_comm]; exact Nat.div_add_mod t q
    rw [get_flatK _ _ _ _ (by rw [List.size_toArray]; exact ht)]
    have e2 : l.toArray[t / q]! = l[t / q] := by rw [getElem!_pos l.toArray _ (by rw [List.size_toArray]; exact hi)]; simp
    have e3 : (l.map v)[t / q]'(by rw [List.length_map]; exact hi) = v l[t / q] := by simp
    rw [e2, getElem!_pos (cs (v l[t / q])) _ (by rw [hF.len]; exact hm)]
    rw [Nat.add_assoc, e] at h1
    rw [h1]
    simp only [id, e3]
theorem holds_sl {α β : Type} [Inhabited β] {q : Nat} {E : Elem α} {G : α → Prop} {cs : α → List Value} (hF : Flat q E G cs) (v : β → α) {w : World} {b off : Nat} {l : List β} (hH : HoldsK (fun x => cs (v x)) q w b off l.toArray) (hb : b < w.heap.size) (hG : ∀ x ∈ l, G (v x)) :
    Sl q E w (some ⟨b, off, none⟩) (l.map v) [b] := by
  refine .inr ⟨b, off, fun _ => [], rfl, hb, by rw [flat_nilS], fun i hi => ?_⟩
  have hi' : i < l.length := by simpa using hi
  have e3 : (l.map v)[i] = v l[i] := by simp
  rw [e3]
  refine hF.lay (hG _ (List.getElem_mem hi')) fun j hj => ?_
  have h := (hH.cell (i := i) (c := j) (by rw [List.size_toArray]; exact hi') (by rw [hF.len] at hj; exact hj)).1
  have e2 : l.toArray[i]! = l[i] := by rw [getElem!_pos l.toArray _ (by rw [List.size_toArray]; exact hi')]; simp
  rw [e2, getElem!_pos (cs (v l[i])) _ hj] at h
  exact h
theorem grown_sortK {α : Type} [Inhabited α] (enc : α → List Value) (k : Nat) (w : World) (b off n : Nat) (d : Array α) (os : Array Obj) : w.grownBy (sortWorldK enc k w b off n d os) (some b) := by
  refine ⟨rfl, rfl, rfl, size_sortWorldK_c enc k w b off n d os, fun i hi hn => ?_⟩
  have hne : b ≠ i := fun e => hn (by rw [e])
  show (((Sort.ahead w n).heap.modify b _) ++ os)[i]? = w.heap[i]?
  rw [Array.getElem?_append_left (by simpa [Sort.ahead] using hi), Array.getElem?_modify, if_neg hne]
  rfl

/-- A label that can be. -/
abbrev GL := { d : LblD // lblK d = true }
instance : Inhabited GL := ⟨⟨⟨1, 0, 0, 1, 1, 0⟩, by decide⟩⟩
theorem GL.cells (x : GL) : In64 x.1.id ∧ (0 ≤ x.1.rk ∧ x.1.rk ≤ 1000) := by
  obtain ⟨h0, _, _, _, h5⟩ := lblK_out x.2
  exact ⟨by unfold In64; omega, h5⟩
theorem lbl_G {d : LblD} (h : lblK d = true) : LblP d := by
  obtain ⟨h0, h1, h2, h3, h5⟩ := lblK_out h
  refine ⟨?_, ?_, ?_, ?_, ?_, ?_⟩ <;> unfold In64 <;> omega
theorem gl_of {l : List LblD} (hp : ∀ d ∈ l, lblK d = true) : ∃ g : List GL, g.map (·.1) = l := ⟨l.attachWith _ hp, by simp⟩
theorem ord_gl {bf : List Int} {l : List LblD} {g : List GL} {d' : Array GL} (hp : lblsP l) (hg : g.map (·.1) = l) (h1 : PermIn 0 g.toArray.size g.toArray d') (h2 : SortedIn (ltOf fun x y : GL => cfP bf x.1 y.1) 0 g.toArray.size d') : d'.toList.map (·.1) = ordQ bf l := by
  obtain ⟨hsz, _, hperm⟩ := h1
  have e1 : d'.extract 0 g.toArray.size = d' := by rw [← hsz]; exact Array.extract_size
  rw [e1, Array.extract_size] at hperm
  refine ord_uniq hp (by rw [← hg]; exact hperm.map _) ?_
  rw [List.pairwise_iff_getElem]
  intro i j hi hj hij
  have hi' : i < d'.size := by simpa using hi
  have hj' : j < d'.size := by simpa using hj
  have := h2 i j (Nat.zero_le _) hij (by omega)
  rw [getElem!_pos d' j hj', getElem!_pos d' i hi'] at this
  have e : ltP bf d'[j].1 d'[i].1 = false := this
  unfold leP
  simp only [List.getElem_map, Array.getElem_toList]
  rw [e]; rfl
set_option maxRecDepth 100000 in
set_option maxHeartbeats 2000000 in
theorem sortLbl_any (C B b n : Nat) (s : Int → Prop) (bf : List Int) (a : Option Addr) (m c : Nat) (l : List LblD) (bs : List Nat) (w : World) (hT : LblL w a l bs) (hm : l.length = m) (hfz : ∀ x ∈ bs, ∀ j, w.frozen? ⟨x, j, none⟩ = false) (hp : lblsP l) (h0 : 0 < m) (hS : SetAt w b n s) (hs : ∀ y, s y ↔ y ∈ bf) (hB : w.cell? ⟨B, 0, none⟩ = some (.map (some b))) (hBl : B < w.heap.size)
    (hC : w.cell? ⟨C, 0, none⟩ = some (.func (.func 53) #[] #[.pointer (some ⟨B, 0, none⟩)])) (hCl : C < w.heap.size) (hne : ∀ x ∈ bs, x ≠ b ∧ x ≠ B ∧ x ≠ C) :
    Calls Try.prog 55 #[.slice a m c, .func (.func 56) #[] #[.pointer (some ⟨C, 0, none⟩)]] w fun e w' => e = .returned (.tuple #[]) ∧ ∃ x off, x ∈ bs ∧ a = some ⟨x, off, none⟩ ∧ LblL w' a (ordQ bf l) [x] ∧ w.grownBy w' (some x) := by
  obtain ⟨g, hg⟩ := gl_of (fun d hd => lblsP_mem hp hd)
  subst hg
  have hml : g.length = m := by rw [← hm]; simp
  obtain ⟨x, off, rfl, hx, hxl, hH⟩ := sl_holds lblF (fun y : GL => y.1) hT (by omega) hfz
  obtain ⟨n1, n2, n3⟩ := hne x hx
  have eg : ∀ args w, (callFunc 56 args).run Try.prog w = .ok (.enter 56 args) w := enters_of Try.func56 (by kernel_rfl) rfl
  have hO : SWO (ltOf fun x y : GL => cfP bf x.1 y.1) := by
    have h := ltP_swo bf
    exact ⟨fun x => h.irrefl x.1, fun x y z => h.trans x.1 y.1 z.1, fun x y z => h.ntrans x.1 y.1 z.1⟩
  have hcmp : CmpLays Try.prog 56 #[.pointer (some ⟨C, 0, none⟩)] (fun y : GL => lblCs y.1) 6 (fun x y : GL => cfP bf x.1 y.1) x off g.toArray.size w := fun k os dk hdk u v => by
    have hgr := grown_sortK (fun y : GL => lblCs y.1) 6 w x off k dk os
    obtain ⟨V, HV⟩ : ∃ V, sortWorldK (fun y : GL => lblCs y.1) 6 w x off k dk os = V := ⟨_, rfl⟩
    rw [HV] at hgr ⊢
    have key : ∀ (D : Nat) (v : Value), D < w.heap.size → x ≠ D → w.cell? ⟨D, 0, none⟩ = some v → V.cell? ⟨D, 0, none⟩ = some v := fun D v hD hn h => by rw [World.cell?_of_block (a := ⟨D, 0, none⟩) (hgr.block D hD (fun e => hn (by injection e with e; exact e.symm)))]; exact h
    have hSV : SetAt V b n s := by
      have hbl := hgr.block b hS.lt (fun e => n1 (by injection e with e; exact e.symm))
      obtain ⟨D, ⟨es, ck, k0, k1⟩, k2⟩ := hS
      exact ⟨D, ⟨es, ck, by rw [hbl]; exact k0, k1⟩, k2⟩
    exact turnCmp_any C B b n s bf u.1 v.1 V hSV hs (key B _ hBl n2 hB) (Nat.lt_of_lt_of_le hBl hgr.size) (key C _ hCl n3 hC) (Nat.lt_of_lt_of_le hCl hgr.size) u.cells.1 u.cells.2 v.cells.1 v.cells.2
  have hcon := AnyQ.slices_SortFunc Try.sortLb 6 Try.isAgg33 Try.sizeOf33 (fun y : GL => lblCs y.1) (fun _ => rfl) (fun y v hv => lblF.one _ v hv) (fun x y : GL => cfP bf x.1 y.1) hO 56 #[.pointer (some ⟨C, 0, none⟩)] x off c g.toArray w eg hcmp hH hxl (by rw [List.size_toArray, hml]; have := hp.1; rw [hm] at this; omega)
  change Calls Try.prog 55 _ _ _ at hcon
  rw [List.size_toArray, hml] at hcon
  refine hcon.mono ?_
  rintro e w' ⟨rfl, d', k, os, q1, q2, rfl⟩
  have hord := ord_gl (bf := bf) hp rfl (by simpa [hml] using q1) (by simpa [hml] using q2)
  refine ⟨rfl, x, off, hx, rfl, ?_, grown_sortK _ 6 w x off k d' os⟩
  rw [← hord]
  have hH' := holdsK_sortWorldK_c (fun y : GL => lblCs y.1) 6 w x off g.toArray d' k os hH hxl q1.1
  exact holds_sl lblF (fun y : GL => y.1) (by simpa using hH') (Nat.lt_of_lt_of_le hxl (size_sortWorldK_c _ _ _ _ _ _ _ _)) (fun y _ => lbl_G y.2)
end Go.Proofs.Ytpbpnkklnbmkeaa

namespace Go.Proofs.Ytpbpnkklnbmkeaa
open Go.RowKit Go.Maps Go.Sort Go.Shelf Go.Lib

set_option maxHeartbeats 1000000 in
theorem freshLbl_any (a : Option Addr) (n c : Nat) (l : List LblD) (bs : List Nat) (w : World) (hT : LblL w a l bs) (hn : l.length = n) (hm : n ≤ 1048576) :
    Calls Try.prog 54 #[.slice a n c] w fun e w' => ∃ a' c' bs', e = .returned (.slice a' n c') ∧ LblL w' a' l bs' ∧ Fresh w w' bs' ∧ Bel w w' := by
  obtain ⟨i0, hi0, hz0, hz1, hz2⟩ := info_parts infoLb
  have hown0 : w.ownsRow w.heap.size 33 6 (.slice none 0 0) 0 [] := World.ownsRow_nil _ _ _ _
  go_enter Try.func54, Try.ntmps54
  go_wp2_with (first
    | (at_builtin; refine wpList_append_flat lblF (by decide) rfl _ _ 24 rfl w.heap.size 33 i0 (.agg #[.int .i64 0, .int .i64 0, .int .i64 0, .int .i64 0, .int .i64 0, .int .i64 0]) 48 Try.underlying24 hi0 hz0 hz1 hz2 rfl _ rfl hown0 a n c l bs rfl hT hn hm (by decide) (Nat.le_refl _) ?_)
    | go_in)
  intro a' c' bs' w3 HS HM hgrow
  have hB : Bel w w3 := bel_grow (Bel.refl _) hgrow (fun j e => by cases e)
  clear hgrow
  go_wp2
  go_ret
  exact ⟨_, _, bs', rfl, HS, HM.fresh (Nat.le_refl _), hB⟩
set_option maxHeartbeats 1000000 in
/-- slices.SortFunc at no label. -/
theorem sortLbl_none (p : Option Addr) (c : Nat) (fv : Value) (w : World) :
    Calls Try.prog 55 #[.slice p 0 c, fv] w fun e w' => e = .returned (.tuple #[]) ∧ w' = w := by
  have hcon := AnyF.slices_SortFunc_none Try.sortLb p c fv w
  change Calls Try.prog 55 _ _ _ at hcon
  exact hcon
theorem ordQ_nil (bf : List Int) : ordQ bf [] = [] := by simp [ordQ]
set_option maxRecDepth 100000 in
set_option maxHeartbeats 4000000 in
theorem inTurn_any (a : Option Addr) (n c : Nat) (l : List LblD) (bs : List Nat) (ai : Option Addr) (ni ci : Nat) (bf : List Int) (bi : List Nat) (w : World) (hT : LblL w a l bs) (hn : l.length = n) (hI : Ints w ai bf bi) (hni : bf.length = ni) (hmi : ni ≤ 1048576) (hp : lblsP l) :
    Calls Try.prog 33 #[.slice a n c, .slice ai ni ci] w fun e w' => ∃ a' c' bs', e = .returned (.slice a' n c') ∧ LblL w' a' (ordQ bf l) bs' ∧ (∀ x ∈ bs', w.heap.size ≤ x) ∧ Bel w w' := by
  have Hn : Hid (l.length = n) := hn
  have HP : Hid (lblsP l) := hp
  have hn5 : n ≤ 500 := by rw [← hn]; exact hp.1
  have hmm := @run_makeMap Try.prog
  have hsf : ∀ (ad : Addr) (caps : Array Value) (w : World), (store ad (.func (.func 53) #[] caps)).run Try.prog w = stored Try.prog w ad (.func (.func 53) #[] caps) .plain := fun ad caps w => run_store _ w ad _ .plain rfl
  obtain ⟨W1, HW1⟩ : ∃ W, Hid (W = (w.alloc (.map #[] 0)).alloc (.cells #[.map (some w.heap.size)] 56)) := ⟨_, (rfl : (w.alloc (.map #[] 0)).alloc (.cells #[.map (some w.heap.size)] 56) = _)⟩
  have hB1 : Bel w W1 := by rw [HW1.out]; exact bel_alloc (bel_alloc (Bel.refl _) _) _
  have hS1 : SetAt W1 w.heap.size 0 (fun _ => False) := by rw [HW1.out]; exact (SetAt.new w).bel (bel_alloc (Bel.refl _) _)
  have X1 : Blk W1 (w.heap.size + 1) [.map (some w.heap.size)] := by rw [HW1.out]; exact Blk.new1 w _ [.map (some w.heap.size)] _
  have x1 : W1.cell? ⟨w.heap.size + 1, 0, none⟩ = some (.map (some w.heap.size)) := X1.cell 0 (by simp)
  have x1l := X1.lt
  have hI1 := hI.bel intE hB1
  have hnb : w.heap.size ∉ bi := fun h => by have := hI.lt intE _ h; omega
  clear hn hp hI
  go_enter Try.func33, Try.ntmps33
  go_upto_region 2 with fail
  rw [← HW1.out]
  go_wp2_with fail
  refine (add_any _ _ _ _ _ _ bf bi _ hS1 hI1 hni hmi (by decide) hnb).mono ?_
  rintro e w2 ⟨rfl, hS2, hg2⟩
  have hB2 : Bel w w2 := bel_grow hB1 hg2 (fun k e => by injection e with e; omega)
  have X2 := X1.kept hg2 (fun e => by injection e with e; omega)
  have hT2 := hT.bel lblE hB2
  obtain ⟨W3, HW3⟩ : ∃ W, Hid (W = w2.alloc (.cells #[.func (.func 53) #[] #[.pointer (some ⟨w.heap.size + 1, 0, none⟩)]] 90)) := ⟨_, (rfl : w2.alloc (.cells #[.func (.func 53) #[] #[.pointer (some ⟨w.heap.size + 1, 0, none⟩)]] 90) = _)⟩
  have hb3 : Bel w2 W3 := by rw [HW3.out]; exact bel_alloc (Bel.refl _) _
  have X3 : Blk W3 w2.heap.size [.func (.func 53) #[] #[.pointer (some ⟨w.heap.size + 1, 0, none⟩)]] := by rw [HW3.out]; exact Blk.new w2 [.func (.func 53) #[] #[.pointer (some ⟨w.heap.size + 1, 0, none⟩)]] _
  have hB3 := bel_step hB2 hb3
  have hT3 := hT2.bel lblE hb3
  have hS3 := hS2.bel hb3
  have X23 := X2.bel hb3
  have HX3 : Hid (w.heap.size + 1 < w2.heap.size ∧ w2.heap.size < W3.heap.size) := ⟨X2.lt, X3.lt⟩
  clear hS1 hI1 hg2 x1 x1l X1 hS2 X2 hT2 hmm
  go_upto_region 4 with fail
  rw [← HW3.out]
  go_wp2_with fail
  refine (freshLbl_any a n c l bs _ hT3 Hn.out (by omega)).mono ?_
  rintro e w4 ⟨a4, c4, bs4, rfl, T4, F4, hb4⟩
  have hB4 := bel_step hB3 hb4
  have hS4 := hS3.bel hb4
  have X24 := X23.bel hb4
  have X34 := X3.bel hb4
  have hlo : ∀ x ∈ bs4, w.heap.size ≤ x := fun x hx => Nat.le_trans hB3.out.size (F4.new x hx).1
  clear hT3 hS3 X23 X3
  by_cases h0 : n = 0
  · subst h0
    obtain rfl : l = [] := List.length_eq_zero_iff.1 Hn.out
    go_wp2_with fail
    refine (sortLbl_none a4 c4 _ _).mono ?_
    rintro e w5 ⟨rfl, rfl⟩
    go_wp2
    go_ret
    exact ⟨a4, c4, bs4, rfl, by rw [ordQ_nil]; exact T4, hlo, hB4⟩
  · have hs : ∀ y, (y ∈ bf ∨ False) ↔ y ∈ bf := fun y => by simp
    have hne : ∀ x ∈ bs4, x ≠ w.heap.size ∧ x ≠ w.heap.size + 1 ∧ x ≠ w2.heap.size := fun x hx => by
      have h1 := (F4.new x hx).1
      have h3 := HX3.out
      omega
    go_wp2_with fail
    refine (sortLbl_any w2.heap.size (w.heap.size + 1) w.heap.size _ _ bf a4 n c4 l bs4 _ T4 Hn.out F4.free HP.out (by omega) hS4 hs (X24.cell 0 (by simp)) X24.lt (X34.cell 0 (by simp)) X34.lt hne).mono ?_
    rintro e w5 ⟨rfl, x, off, hx, rfl, T5, hg5⟩
    have hB5 : Bel w w5 := bel_grow hB4 hg5 (fun k e => by injection e with e; rw [← e]; exact hlo x hx)
    go_wp2
    go_ret
    exact ⟨_, c4, [x], rfl, T5, fun y hy => by rw [List.mem_singleton.1 hy]; exact hlo x hx, hB5⟩
end Go.Proofs.Ytpbpnkklnbmkeaa
