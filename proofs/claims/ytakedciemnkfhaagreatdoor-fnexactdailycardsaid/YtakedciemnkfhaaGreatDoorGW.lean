/-
  Daily: plain mathematics: every Road takes so many percent of its Time; the graph stays a graph.
  The list of hours, in the program: contracts.
-/
import Derived.Test.YtakedciemnkfhaaGreatDoorGV
import Derived.Test.YtakedciemnkfhaaGreatDoorBpM
import Derived.Test.YtakedciemnkfhaaGreatDoorGC
namespace Go.Proofs.YtakedciemnkfhaaGreatDoor
open Go.RowKit Go.Maps

/-- The graph in which every Road is slowed. -/
def slG (g : GraphD) (p : Int) : GraphD := ⟨g.places, g.roads.map (slw1 (fun _ => true) p), g.bans⟩
theorem slw1_t (p : Int) (d : RoadD) : slw1 (fun _ => true) p d = slwD p d := if_pos rfl
theorem slG_ok {g : GraphD} {p : Int} (hP : graphP g) (hp : 1 ≤ p ∧ p ≤ 10000) : graphP (slG g p) := by
 obtain ⟨h1, h2, h3, h4⟩ := hP
 refine ⟨?_, h2, ?_, ?_⟩
 ·unfold slG
  simp only [List.length_map]
  exact h1
 ·intro i hi
  have hi' : i < g.roads.length := by unfold slG at hi; simpa using hi
  have h := h3 i hi'
  have ho := roadB_out h
  have hb := slwT_bd ho.2.2.2.1 hp
  have he : (slG g p).roads[i] = slwD p g.roads[i] := by show (g.roads.map (slw1 (fun _ => true) p))[i]'(by simpa using hi') = _; rw [List.getElem_map]; exact slw1_t _ _
  rw [he]
  unfold roadB at h ⊢
  simp only [slwD, slG, Bool.and_eq_true] at h ⊢
  exact ⟨h.1, h.2.1, h.2.2.1, decide_eq_true hb.1, decide_eq_true hb.2, h.2.2.2.2.2⟩
 ·intro i hi
  obtain ⟨hm, hl⟩ := h4 i hi
  refine ⟨?_, hl⟩
  obtain ⟨a, b, ha, hb, e1, e2, e3⟩ := hm
  refine ⟨a, b, by unfold slG; simpa using ha, by unfold slG; simpa using hb, e1, e2, ?_⟩
  unfold slG
  simp only [List.getElem_map, slw1_t]
  exact e3
/-- A list of hours: percents, all of them. -/
def hrP (l : List Int) : Prop := ∀ i (h : i < l.length), 1 ≤ l[i] ∧ l[i] ≤ 10000
/-- What Daily answers. -/
noncomputable def dlQ (g : GraphD) (l : List Int) (s t st : Int) : PthD :=
 if bP (graphP g) = true ∧ bP (l.length = 24 ∧ hrP l) = true ∧ (0 ≤ st ∧ st < 86400) then bpQ (slG g (l.getD (st / 3600).toNat 0)) s t else ⟨false, [], 0, 0⟩
theorem dlQ_no {g : GraphD} {l : List Int} {s t st : Int} (h : ¬ (graphP g ∧ (l.length = 24 ∧ hrP l) ∧ (0 ≤ st ∧ st < 86400))) : dlQ g l s t st = ⟨false, [], 0, 0⟩ := by
 unfold dlQ
 rw [if_neg fun hh => h ⟨bP_out hh.1, bP_out hh.2.1, hh.2.2⟩]
theorem dlQ_at {g : GraphD} {l : List Int} {s t st : Int} (hP : graphP g) (hl : l.length = 24) (hh : hrP l) (hs : 0 ≤ st ∧ st < 86400) {k : Nat} (hk : k < l.length) (ek : (st / 3600).toNat = k) : dlQ g l s t st = bpQ (slG g l[k]) s t := by
 unfold dlQ
 rw [if_pos ⟨bP_true hP, bP_true ⟨hl, hh⟩, hs⟩, ek]
 congr 2
 simp [List.getD, hk]
theorem dlQ_spot {g : GraphD} {l : List Int} {s t st : Int} (h : ¬ (inN g.places.length s = true ∧ inN g.places.length t = true)) : dlQ g l s t st = ⟨false, [], 0, 0⟩ := by
 unfold dlQ
 split
 ·exact bpQ_no (fun hh => h ⟨hh.2.1, hh.2.2⟩)
 ·rfl
end Go.Proofs.YtakedciemnkfhaaGreatDoor

namespace Go.Proofs.YtakedciemnkfhaaGreatDoor
open Go.RowKit Go.Maps

theorem percentB_any (p : Int) (r : Bool) (w : World) (h : (decide (1 ≤ p) && decide (p ≤ 10000)) = r) :
  Calls Tryz.prog 65 #[.int .i64 p] w fun e w' => e = .returned (.bool r) ∧ w' = w := by
 by_cases h0 : 1 ≤ p
 ·by_cases h1 : p ≤ 10000
  ·obtain rfl : r = true := by rw [← h]; simp [h0, h1]
   clear h
   go_enter Tryz.func65, Tryz.ntmps65
   go_wp2
   go_ret
   exact ⟨rfl, rfl⟩
  ·obtain rfl : r = false := by rw [← h]; simp [h1]
   clear h
   go_enter Tryz.func65, Tryz.ntmps65
   go_wp2
   go_ret
   exact ⟨rfl, rfl⟩
 ·obtain rfl : r = false := by rw [← h]; simp [h0]
  clear h
  go_enter Tryz.func65, Tryz.ntmps65
  go_wp2
  go_ret
  exact ⟨rfl, rfl⟩

set_option maxRecDepth 100000 in
set_option maxHeartbeats 1000000 in
theorem allH_any (a : Option Addr) (n c : Nat) (l : List Int) (bs : List Nat) (w : World) (hT : Ints w a l bs) (hn : l.length = n) (hm : n ≤ 1048576) :
  Calls Tryz.prog 64 #[.slice a n c, .func (.func 65) #[] #[]] w fun e w' => e = .returned (.bool (bP (hrP l))) ∧ w' = w := by
 have Hn : Hid (l.length = n) := hn
 clear hn
 obtain ⟨r, Hr⟩ : ∃ r, Hid (bP (hrP l) = r) := ⟨_, (rfl : bP (hrP l) = _)⟩
 rw [Hr.out]
 go_enter Tryz.func64, Tryz.ntmps64
 go_wp2
 go_loopw [6, 9] (fun _ i wr => ∃ k : Nat, k ≤ n ∧ i = .int .i64 k ∧ (∀ j (h : j < l.length), j < k → 1 ≤ l[j] ∧ l[j] ≤ 10000) ∧ wr = w) (fun _ i _ => n - (intOf i).toNat)
 case atStart => exact ⟨0, Nat.zero_le _, rfl, fun j _ hj => absurd hj (Nat.not_lt_zero _), rfl⟩
 case round =>
  obtain ⟨k, hk, rfl, hall, rfl⟩ := hrel
  have H : Hid (∀ j (h : j < l.length), j < k → 1 ≤ l[j] ∧ l[j] ≤ 10000) := hall
  clear hall
  by_cases hlt : k < n
  ·have hkl : k < l.length := by rw [Hn.out]; exact hlt
   obtain ⟨b, off, f, rfl, hb, hx⟩ := hT.out hkl
   have hxk := hx k hkl
   obtain ⟨d, Hd⟩ : ∃ d, Hid (l[k] = d) := ⟨_, (rfl : l[k] = _)⟩
   rw [Hd.out] at hxk
   have c0 : wr.cell? ⟨b, off + k, none⟩ = some (.int .i64 d) := by simpa using hxk.2.2
   clear hx hT hxk
   by_cases hf : 1 ≤ d ∧ d ≤ 10000
   rotate_left
   ·have HF : Hid (false = r) := (by rw [← Hr.out]; exact (bP_false fun h => by have := h k hkl; rw [Hd.out] at this; exact hf this).symm : false = r)
    go_wp2_with fail
    refine (percentB_any d false _ (by simp only [Bool.and_eq_false_iff, decide_eq_false_iff_not]; omega)).mono ?_
    rintro e w1 ⟨rfl, hw⟩
    have hw := hw.symm
    subst hw
    go_wp2
    go_ret
    exact ⟨ret_bl HF.out, rfl⟩
   ·go_wp2_with fail
    refine (percentB_any d true _ (by simp only [Bool.and_eq_true, decide_eq_true_eq]; exact hf)).mono ?_
    rintro e w1 ⟨rfl, hw⟩
    have hw := hw.symm
    subst hw
    go_wp2
    go_roundw
    case rel => exact ⟨k + 1, by omega, by go_num, fun j hj hjk => by
            (by_cases e : j = k)
            ·subst e; rw [Hd.out]; exact hf
            ·exact H.out j hj (by omega), by trivial⟩
    case measure => simp [intOf]; omega
  ·have HT : Hid (true = r) := (by rw [← Hr.out]; exact (bP_true fun j hj => H.out j hj (by rw [Hn.out] at hj; omega)).symm : true = r)
   go_wp2
   go_ret
   exact ⟨ret_bl HT.out, rfl⟩

set_option maxHeartbeats 1000000 in
theorem dayOk_any (a : Option Addr) (n c : Nat) (l : List Int) (bs : List Nat) (w : World) (hT : Ints w a l bs) (hn : l.length = n) (hm : n ≤ 1048576) :
  Calls Tryz.prog 34 #[.slice a n c] w fun e w' => e = .returned (.bool (bP (l.length = 24 ∧ hrP l))) ∧ w' = w := by
 have Hn : Hid (l.length = n) := hn
 obtain ⟨r, Hr⟩ : ∃ r, Hid (bP (l.length = 24 ∧ hrP l) = r) := ⟨_, (rfl : bP (l.length = 24 ∧ hrP l) = _)⟩
 rw [Hr.out]
 by_cases h24 : n = 24
 rotate_left
 ·have HF : Hid (false = r) := (by rw [← Hr.out]; exact (bP_false fun h => h24 (by rw [← hn]; exact h.1)).symm : false = r)
  have hd : ((n : Int) == 24) = false := by simp; omega
  have hd' : ¬ (n : Int) = 24 := by omega
  clear hn h24
  go_enter Tryz.func34, Tryz.ntmps34
  go_wp2
  go_ret
  exact ⟨ret_bl HF.out, rfl⟩
 ·have HE : Hid (bP (hrP l) = r) := (by
   rw [← Hr.out]
   by_cases hh : hrP l
   ·rw [bP_true hh, bP_true ⟨hn.trans h24, hh⟩]
   ·rw [bP_false hh, bP_false (fun h => hh h.2)] : bP (hrP l) = r)
  have hd : ((n : Int) == 24) = true := by simp; omega
  have hd' : (n : Int) = 24 := by omega
  clear hn h24
  go_enter Tryz.func34, Tryz.ntmps34
  go_wp2_with fail
  refine (allH_any _ _ _ l bs _ hT Hn.out hm).mono ?_
  rintro e w1 ⟨rfl, hw⟩
  have hw := hw.symm
  subst hw
  rw [HE.out]
  go_wp2
  go_ret
  exact ⟨rfl, rfl⟩
end Go.Proofs.YtakedciemnkfhaaGreatDoor
