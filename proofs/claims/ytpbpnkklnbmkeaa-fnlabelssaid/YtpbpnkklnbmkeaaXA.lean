/-
  What a label counts, and how two are compared: the program's closures.
  slices.SortFunc at labels, by the shelf: the row holds them in turn.
  The labels in the order in which they are placed: the program's contract.
  append of numbers to a row of the call's own, as one step of a region; parts of a row.
  slices.Sort at int64, by the shelf: a row of the call's own, put in order.
-/
import Derived.Test.YtpbpnkklnbmkeaaXB
import Derived.Test.YtpbpnkklnbmkeaaGrowC
import Derived.Ground.SlsfProg
import Derived.Shelf.Lay
import Derived.Test.YtpbpnkklnbmkeaaRowH
import Derived.Test.YtpbpnkklnbmkeaaOwnB
import Derived.Test.YtpbpnkklnbmkeaaFlat
import Derived.Deep.AppendLies
import Derived.Shelf.SortM.Plain
import Derived.Shelf.SortM.SortNone
import Derived.Ground.SlgmProg
namespace Go.Proofs.Ytpbpnkklnbmkeaa
open Go.RowKit Go.Maps Go.Sort

theorem hasG_any (b n : Nat) (s : Int → Prop) (x : Int) (w : World) (hS : SetAt w b n s) (hx : In64 x) :
    Calls Try.prog 30 #[.map (some b), .int .i64 x] w fun e w' => e = .returned (.bool (bP (s x))) ∧ Gw w w' := by
  have hl := hS.look hx
  go_enter Try.func30, Try.ntmps30
  go_wp2
  go_ret
  exact ⟨rfl, (Gw.refl _).alloc _⟩
set_option maxRecDepth 100000 in
set_option maxHeartbeats 1000000 in
theorem counts_any (B b n : Nat) (s : Int → Prop) (bf : List Int) (d : LblD) (w : World) (hS : SetAt w b n s) (hs : ∀ y, s y ↔ y ∈ bf) (hB : w.cell? ⟨B, 0, none⟩ = some (.map (some b))) (hBl : B < w.heap.size) (hd : In64 d.id) (hr : 0 ≤ d.rk ∧ d.rk ≤ 1000) :
    Calls Try.prog 53 #[lbv d, .pointer (some ⟨B, 0, none⟩)] w fun e w' => e = .returned (.int .i64 (rkB bf d)) ∧ Gw w w' := by
  obtain ⟨W, HW⟩ : ∃ W, Hid (W = w.alloc (.cells #[.int .i64 d.id, .int .i64 d.x, .int .i64 d.y, .int .i64 d.wd, .int .i64 d.ht, .int .i64 d.rk] 33)) := ⟨_, (rfl : w.alloc (.cells #[.int .i64 d.id, .int .i64 d.x, .int .i64 d.y, .int .i64 d.wd, .int .i64 d.ht, .int .i64 d.rk] 33) = _)⟩
  have hG : Gw w W := by rw [HW.out]; exact (Gw.refl w).alloc _
  have X : Blk W w.heap.size [.int .i64 d.id, .int .i64 d.x, .int .i64 d.y, .int .i64 d.wd, .int .i64 d.ht, .int .i64 d.rk] := by rw [HW.out]; exact Blk.new w [.int .i64 d.id, .int .i64 d.x, .int .i64 d.y, .int .i64 d.wd, .int .i64 d.ht, .int .i64 d.rk] _
  have hSW := hS.bel hG.bel
  have x0 : W.cell? ⟨w.heap.size, 0, none⟩ = some (.int .i64 d.id) := X.cell 0 (by simp)
  have y0 : W.cell? ⟨B, 0, none⟩ = some (.map (some b)) := bel_cellM hG.bel hBl hB
  obtain ⟨d1, r, hd1⟩ : ∃ (i r : Int), Hid (i = d.id ∧ r = d.rk) := ⟨_, _, (⟨rfl, rfl⟩ : d.id = d.id ∧ d.rk = d.rk)⟩
  have HX : Hid (Blk W w.heap.size [.int .i64 d.id, .int .i64 d.x, .int .i64 d.y, .int .i64 d.wd, .int .i64 d.ht, .int .i64 r]) := by rw [hd1.out.2]; exact X
  have hr2 : 0 ≤ r ∧ r ≤ 1000 := by rw [hd1.out.2]; exact hr
  have xl := X.lt
  clear hS X hB
  go_enter Try.func53, Try.ntmps53
  go_upto_region 1 with fail
  rw [← HW.out]
  go_wp2_with fail
  refine (hasG_any b n s d.id _ hSW hd).mono ?_
  rintro e w1 ⟨rfl, hb1⟩
  have hG1 := hG.step hb1
  have X1 := HX.out.bel hb1.bel
  have x5 : w1.cell? ⟨w.heap.size, 5, none⟩ = some (.int .i64 r) := X1.cell 5 (by simp)
  have x5l := X1.lt
  by_cases hm : d.id ∈ bf
  · have HR : Hid (r + 50 = rkB bf d) := (by unfold rkB; rw [if_pos hm, hd1.out.2] : r + 50 = rkB bf d)
    rw [bP_true ((hs d.id).2 hm)]
    clear x0 y0
    go_wp2
    go_ret
    exact ⟨ret_num HR.out, hG1⟩
  · have HR : Hid (r = rkB bf d) := (by unfold rkB; rw [if_neg hm, hd1.out.2] : r = rkB bf d)
    rw [bP_false (fun h => hm ((hs d.id).1 h))]
    clear x0 y0
    go_wp2
    go_ret
    exact ⟨ret_num HR.out, hG1⟩
set_option maxRecDepth 100000 in
set_option maxHeartbeats 2000000 in
theorem turnCmp_any (C B b n : Nat) (s : Int → Prop) (bf : List Int) (d f : LblD) (w : World) (hS : SetAt w b n s) (hs : ∀ y, s y ↔ y ∈ bf) (hB : w.cell? ⟨B, 0, none⟩ = some (.map (some b))) (hBl : B < w.heap.size)
    (hC : w.cell? ⟨C, 0, none⟩ = some (.func (.func 53) #[] #[.pointer (some ⟨B, 0, none⟩)])) (hCl : C < w.heap.size) (hd : In64 d.id) (hr : 0 ≤ d.rk ∧ d.rk ≤ 1000) (hf : In64 f.id) (hg : 0 ≤ f.rk ∧ f.rk ≤ 1000) :
    Calls Try.prog 56 #[lbv d, lbv f, .pointer (some ⟨C, 0, none⟩)] w fun e w' => e = .returned (.int .i64 (cfP bf d f)) ∧ Gw w w' := by
  obtain ⟨W, HW⟩ : ∃ W, Hid (W = (w.alloc (.cells #[.int .i64 d.id, .int .i64 d.x, .int .i64 d.y, .int .i64 d.wd, .int .i64 d.ht, .int .i64 d.rk] 33)).alloc (.cells #[.int .i64 f.id, .int .i64 f.x, .int .i64 f.y, .int .i64 f.wd, .int .i64 f.ht, .int .i64 f.rk] 33)) := ⟨_, (rfl : (w.alloc (.cells #[.int .i64 d.id, .int .i64 d.x, .int .i64 d.y, .int .i64 d.wd, .int .i64 d.ht, .int .i64 d.rk] 33)).alloc (.cells #[.int .i64 f.id, .int .i64 f.x, .int .i64 f.y, .int .i64 f.wd, .int .i64 f.ht, .int .i64 f.rk] 33) = _)⟩
  have hG : Gw w W := by rw [HW.out]; exact ((Gw.refl w).alloc _).alloc _
  have X0 : Blk W w.heap.size [.int .i64 d.id, .int .i64 d.x, .int .i64 d.y, .int .i64 d.wd, .int .i64 d.ht, .int .i64 d.rk] := by rw [HW.out]; exact (Blk.new w [.int .i64 d.id, .int .i64 d.x, .int .i64 d.y, .int .i64 d.wd, .int .i64 d.ht, .int .i64 d.rk] _).bel (bel_alloc (Bel.refl _) _)
  have X1 : Blk W (w.heap.size + 1) [.int .i64 f.id, .int .i64 f.x, .int .i64 f.y, .int .i64 f.wd, .int .i64 f.ht, .int .i64 f.rk] := by rw [HW.out]; exact Blk.new1 w _ [.int .i64 f.id, .int .i64 f.x, .int .i64 f.y, .int .i64 f.wd, .int .i64 f.ht, .int .i64 f.rk] _
  have hR : ∀ w', Gw W w' → w'.cell? ⟨C, 0, none⟩ = some (.func (.func 53) #[] #[.pointer (some ⟨B, 0, none⟩)]) ∧ w'.cell? ⟨w.heap.size, 0, none⟩ = some (.int .i64 d.id) ∧ w'.cell? ⟨w.heap.size, 1, none⟩ = some (.int .i64 d.x) ∧ w'.cell? ⟨w.heap.size, 2, none⟩ = some (.int .i64 d.y) ∧ w'.cell? ⟨w.heap.size, 3, none⟩ = some (.int .i64 d.wd) ∧ w'.cell? ⟨w.heap.size, 4, none⟩ = some (.int .i64 d.ht) ∧ w'.cell? ⟨w.heap.size, 5, none⟩ = some (.int .i64 d.rk) ∧ w'.cell? ⟨w.heap.size + 1, 0, none⟩ = some (.int .i64 f.id) ∧ w'.cell? ⟨w.heap.size + 1, 1, none⟩ = some (.int .i64 f.x) ∧ w'.cell? ⟨w.heap.size + 1, 2, none⟩ = some (.int .i64 f.y) ∧ w'.cell? ⟨w.heap.size + 1, 3, none⟩ = some (.int .i64 f.wd) ∧ w'.cell? ⟨w.heap.size + 1, 4, none⟩ = some (.int .i64 f.ht) ∧ w'.cell? ⟨w.heap.size + 1, 5, none⟩ = some (.int .i64 f.rk) := fun w' h =>
    ⟨bel_cellM (hG.step h).bel hCl hC, (X0.bel h.bel).cell 0 (by simp), (X0.bel h.bel).cell 1 (by simp), (X0.bel h.bel).cell 2 (by simp), (X0.bel h.bel).cell 3 (by simp), (X0.bel h.bel).cell 4 (by simp), (X0.bel h.bel).cell 5 (by simp), (X1.bel h.bel).cell 0 (by simp), (X1.bel h.bel).cell 1 (by simp), (X1.bel h.bel).cell 2 (by simp), (X1.bel h.bel).cell 3 (by simp), (X1.bel h.bel).cell 4 (by simp), (X1.bel h.bel).cell 5 (by simp)⟩
  have k1 : ∀ w', Gw W w' → Calls Try.prog 53 #[lbv d, .pointer (some ⟨B, 0, none⟩)] w' fun e w'' => e = .returned (.int .i64 (rkB bf d)) ∧ Gw w' w'' := fun w' h => counts_any B b n s bf d w' (hS.bel (hG.step h).bel) hs (bel_cellM (hG.step h).bel hBl hB) (Nat.lt_of_lt_of_le hBl (hG.step h).bel.out.size) hd hr
  have k2 : ∀ w', Gw W w' → Calls Try.prog 53 #[lbv f, .pointer (some ⟨B, 0, none⟩)] w' fun e w'' => e = .returned (.int .i64 (rkB bf f)) ∧ Gw w' w'' := fun w' h => counts_any B b n s bf f w' (hS.bel (hG.step h).bel) hs (bel_cellM (hG.step h).bel hBl hB) (Nat.lt_of_lt_of_le hBl (hG.step h).bel.out.size) hf hg
  have HO0 : Hid (orz (cpz (rkB bf f) (rkB bf d)) (cpz d.id f.id) = cfP bf d f) := (rfl : orz (cpz (rkB bf f) (rkB bf d)) (cpz d.id f.id) = cfP bf d f)
  obtain ⟨u, Hu⟩ : ∃ u, Hid (rkB bf d = u) := ⟨_, (rfl : rkB bf d = _)⟩
  obtain ⟨v, Hv⟩ : ∃ u, Hid (rkB bf f = u) := ⟨_, (rfl : rkB bf f = _)⟩
  rw [Hu.out] at k1
  rw [Hv.out] at k2
  obtain ⟨p, Hp⟩ : ∃ p, Hid (cpz v u = p) := ⟨_, (rfl : cpz v u = _)⟩
  obtain ⟨q, Hq⟩ : ∃ p, Hid (cpz d.id f.id = p) := ⟨_, (rfl : cpz d.id f.id = _)⟩
  have HO : Hid (orz p q = cfP bf d f) := by rw [← HO0.out, Hu.out, Hv.out, Hp.out, Hq.out]; exact rfl
  have c1 : ∀ w, Calls Try.prog 58 #[.int .i64 v, .int .i64 u] w fun e w' => e = .returned (.int .i64 p) ∧ w' = w := fun w => by rw [← Hp.out]; exact compare64_any _ _ _
  have c2 : ∀ w, Calls Try.prog 58 #[.int .i64 d.id, .int .i64 f.id] w fun e w' => e = .returned (.int .i64 q) ∧ w' = w := fun w => by rw [← Hq.out]; exact compare64_any _ _ _
  have g0 : Gw W W := Gw.refl _
  clear X0 X1 hS hB hC
  go_enter Try.func56, Try.ntmps56
  go_wp2
  rw [← HW.out]
  go_region_held3 (fun w' => Gw W w') (with_reducible (repeat (first | assumption | exact g0 | refine Gw.drew ?_ | refine Gw.alloc ?_ _ | refine gw_then (by assumption) ?_)))
    (first
      | (go_at_call 53; with_reducible refine (k2 _ (by with_reducible (repeat (first | assumption | exact g0 | refine Gw.drew ?_ | refine Gw.alloc ?_ _ | refine gw_then (by assumption) ?_)))).mono ?_; rintro e w3 ⟨rfl, hb3⟩)
      | (go_at_call 53; with_reducible refine (k1 _ (by with_reducible (repeat (first | assumption | exact g0 | refine Gw.drew ?_ | refine Gw.alloc ?_ _ | refine gw_then (by assumption) ?_)))).mono ?_; rintro e w4 ⟨rfl, hb4⟩)
      | (go_at_call 58; with_reducible refine (c1 _).mono ?_; rintro e w' ⟨rfl, rfl⟩)
      | (go_at_call 58; with_reducible refine (c2 _).mono ?_; rintro e w' ⟨rfl, rfl⟩)
      | (go_at_call 57; refine (or2_any _ p q _ (by simp) (by simp)).mono ?_; rintro e w' ⟨rfl, rfl⟩))
  all_goals
    go_wp2
    go_ret
    exact ⟨ret_num HO.out, hG.step (by with_reducible (repeat (first | assumption | refine Gw.drew ?_ | refine Gw.alloc ?_ _)))⟩
end Go.Proofs.Ytpbpnkklnbmkeaa

namespace Go.Proofs.Ytpbpnkklnbmkeaa
open Go.RowKit Go.Maps Go.Sort Go.Shelf Go.Lib
shelf_lay_g SlLaysF0.n6 Slsf 6 at Try 55 as Try.sortLb

theorem flat_nilS {β : Type} (n : Nat) : (List.range n).flatMap (fun _ => ([] : List β)) = [] := List.flatMap_eq_nil_iff.2 fun _ _ => rfl
/-- A flat row as the sort's kit says it. -/
theorem sl_holds {α β : Type} [Inhabited β] {q : Nat} {E : Elem α} {G : α → Prop} {cs : α → List Value} (hF : Flat q E G cs) (v : β → α) {w : World} {a : Option Addr} {l : List β} {bs : List Nat} (h : Sl q E w a (l.map v) bs) (hl : 0 < l.length) (hfz : ∀ x ∈ bs, ∀ j, w.frozen? ⟨x, j, none⟩ = false) :
    ∃ b off, a = some ⟨b, off, none⟩ ∧ b ∈ bs ∧ b < w.heap.size ∧ HoldsK (fun x => cs (v x)) q w b off l.toArray := by
  rcases h with ⟨h0, _⟩ | ⟨b, off, f, rfl, hb, rfl, hx⟩
  · rw [List.map_eq_nil_iff] at h0; rw [h0] at hl; cases hl
  · refine ⟨b, off, rfl, by simp, hb, fun t ht => ⟨?_, hfz b (by simp) _⟩⟩
    rw [size_flatK, List.size_toArray] at ht
    have hq : 0 < q := by rcases Nat.eq_zero_or_pos q with h | h; · rw [h] at ht; omega
                          · exact h
    have hi : t / q < l.length := (Nat.div_lt_iff_lt_mul hq).2 ht
    have hm : t % q < q := Nat.mod_lt _ hq
    have h1 := (hF.get (hx (t / q) (by rw [List.length_map]; exact hi))).2 (t % q) (by rw [hF.len]; exact hm)
    have e : t / q * q + t % q = t := by rw [Nat.mul_comm]; exact Nat.div_add_mod t q
    rw [get_flatK _ _ _ _ (by rw [List.size_toArray]; exact ht)]
    have e2 : l.toArray[t / q]! = l[t / q] := by rw [getElem!_pos l.toArray _ (by rw [List.size_toArray]; exact hi)]; simp
    have e3 : (l.map v)[t / q]'(by rw [List.length_map]; exact hi) = v l[t / q] := by simp
    rw [e2, getElem!_pos (cs (v l[t / q])) _ (by rw [hF.len]; exact hm)]
    rw [Nat.add_assoc, e] at h1
    rw [h1]
    simp only [id, e3]
theorem holds_sl {α β : Type} [Inhabited β] {q : Nat} {E : Elem α} {G : α → Prop} {cs : α → List Value} (hF : Flat q E G cs) (v : β → α) {w : World} {b off : Nat} {l : List β} (hH : HoldsK (fun x => cs (v x)) q w b off l.toArray) (hb : b < w.heap.size) (hG : ∀ x ∈ l, G (v x)) :
    Sl q E w (some ⟨b, off, none⟩) (l.map v) [b] := by
  refine .inr ⟨b, off, fun _ => [], rfl, hb, by rw [flat_nilS], fun i hi => ?_⟩
  have hi' : i < l.length := by simpa using hi
  have e3 : (l.map v)[i] = v l[i] := by simp
  rw [e3]
  refine hF.lay (hG _ (List.getElem_mem hi')) fun j hj => ?_
  have h := (hH.cell (i := i) (c := j) (by rw [List.size_toArray]; exact hi') (by rw [hF.len] at hj; exact hj)).1
  have e2 : l.toArray[i]! = l[i] := by rw [getElem!_pos l.toArray _ (by rw [List.size_toArray]; exact hi')]; simp
  rw [e2, getElem!_pos (cs (v l[i])) _ hj] at h
  exact h
theorem grown_sortK {α : Type} [Inhabited α] (enc : α → List Value) (k : Nat) (w : World) (b off n : Nat) (d : Array α) (os : Array Obj) : w.grownBy (sortWorldK enc k w b off n d os) (some b) := by
  refine ⟨rfl, rfl, rfl, size_sortWorldK_c enc k w b off n d os, fun i hi hn => ?_⟩
  have hne : b ≠ i := fun e => hn (by rw [e])
  show (((Sort.ahead w n).heap.modify b _) ++ os)[i]? = w.heap[i]?
  rw [Array.getElem?_append_left (by simpa [Sort.ahead] using hi), Array.getElem?_modify, if_neg hne]
  rfl

/-- A label that can be. -/
abbrev GL := { d : LblD // lblK d = true }
instance : Inhabited GL := ⟨⟨⟨1, 0, 0, 1, 1, 0⟩, by decide⟩⟩
theorem GL.cells (x : GL) : In64 x.1.id ∧ (0 ≤ x.1.rk ∧ x.1.rk ≤ 1000) := by
  obtain ⟨h0, _, _, _, h5⟩ := lblK_out x.2
  exact ⟨by unfold In64; omega, h5⟩
theorem lbl_G {d : LblD} (h : lblK d = true) : LblP d := by
  obtain ⟨h0, h1, h2, h3, h5⟩ := lblK_out h
  refine ⟨?_, ?_, ?_, ?_, ?_, ?_⟩ <;> unfold In64 <;> omega
theorem gl_of {l : List LblD} (hp : ∀ d ∈ l, lblK d = true) : ∃ g : List GL, g.map (·.1) = l := ⟨l.attachWith _ hp, by simp⟩
theorem ord_gl {bf : List Int} {l : List LblD} {g : List GL} {d' : Array GL} (hp : lblsP l) (hg : g.map (·.1) = l) (h1 : PermIn 0 g.toArray.size g.toArray d') (h2 : SortedIn (ltOf fun x y : GL => cfP bf x.1 y.1) 0 g.toArray.size d') : d'.toList.map (·.1) = ordQ bf l := by
  obtain ⟨hsz, _, hperm⟩ := h1
  have e1 : d'.extract 0 g.toArray.size = d' := by rw [← hsz]; exact Array.extract_size
  rw [e1, Array.extract_size] at hperm
  refine ord_uniq hp (by rw [← hg]; exact hperm.map _) ?_
  rw [List.pairwise_iff_getElem]
  intro i j hi hj hij
  have hi' : i < d'.size := by simpa using hi
  have hj' : j < d'.size := by simpa using hj
  have := h2 i j (Nat.zero_le _) hij (by omega)
  rw [getElem!_pos d' j hj', getElem!_pos d' i hi'] at this
  have e : ltP bf d'[j].1 d'[i].1 = false := this
  unfold leP
  simp only [List.getElem_map, Array.getElem_toList]
  rw [e]; rfl
set_option maxRecDepth 100000 in
set_option maxHeartbeats 2000000 in
theorem sortLbl_any (C B b n : Nat) (s : Int → Prop) (bf : List Int) (a : Option Addr) (m c : Nat) (l : List LblD) (bs : List Nat) (w : World) (hT : LblL w a l bs) (hm : l.length = m) (hfz : ∀ x ∈ bs, ∀ j, w.frozen? ⟨x, j, none⟩ = false) (hp : lblsP l) (h0 : 0 < m) (hS : SetAt w b n s) (hs : ∀ y, s y ↔ y ∈ bf) (hB : w.cell? ⟨B, 0, none⟩ = some (.map (some b))) (hBl : B < w.heap.size)
    (hC : w.cell? ⟨C, 0, none⟩ = some (.func (.func 53) #[] #[.pointer (some ⟨B, 0, none⟩)])) (hCl : C < w.heap.size) (hne : ∀ x ∈ bs, x ≠ b ∧ x ≠ B ∧ x ≠ C) :
    Calls Try.prog 55 #[.slice a m c, .func (.func 56) #[] #[.pointer (some ⟨C, 0, none⟩)]] w fun e w' => e = .returned (.tuple #[]) ∧ ∃ x off, x ∈ bs ∧ a = some ⟨x, off, none⟩ ∧ LblL w' a (ordQ bf l) [x] ∧ w.grownBy w' (some x) := by
  obtain ⟨g, hg⟩ := gl_of (fun d hd => lblsP_mem hp hd)
  subst hg
  have hml : g.length = m := by rw [← hm]; simp
  obtain ⟨x, off, rfl, hx, hxl, hH⟩ := sl_holds lblF (fun y : GL => y.1) hT (by omega) hfz
  obtain ⟨n1, n2, n3⟩ := hne x hx
  have eg : ∀ args w, (callFunc 56 args).run Try.prog w = .ok (.enter 56 args) w := enters_of Try.func56 (by kernel_rfl) rfl
  have hO : SWO (ltOf fun x y : GL => cfP bf x.1 y.1) := by
    have h := ltP_swo bf
    exact ⟨fun x => h.irrefl x.1, fun x y z => h.trans x.1 y.1 z.1, fun x y z => h.ntrans x.1 y.1 z.1⟩
  have hcmp : CmpLays Try.prog 56 #[.pointer (some ⟨C, 0, none⟩)] (fun y : GL => lblCs y.1) 6 (fun x y : GL => cfP bf x.1 y.1) x off g.toArray.size w := fun k os dk hdk u v => by
    have hgr := grown_sortK (fun y : GL => lblCs y.1) 6 w x off k dk os
    obtain ⟨V, HV⟩ : ∃ V, sortWorldK (fun y : GL => lblCs y.1) 6 w x off k dk os = V := ⟨_, rfl⟩
    rw [HV] at hgr ⊢
    have key : ∀ (D : Nat) (v : Value), D < w.heap.size → x ≠ D → w.cell? ⟨D, 0, none⟩ = some v → V.cell? ⟨D, 0, none⟩ = some v := fun D v hD hn h => by rw [World.cell?_of_block (a := ⟨D, 0, none⟩) (hgr.block D hD (fun e => hn (by injection e with e; exact e.symm)))]; exact h
    have hSV : SetAt V b n s := by
      have hbl := hgr.block b hS.lt (fun e => n1 (by injection e with e; exact e.symm))
      obtain ⟨D, ⟨es, ck, k0, k1⟩, k2⟩ := hS
      exact ⟨D, ⟨es, ck, by rw [hbl]; exact k0, k1⟩, k2⟩
    exact turnCmp_any C B b n s bf u.1 v.1 V hSV hs (key B _ hBl n2 hB) (Nat.lt_of_lt_of_le hBl hgr.size) (key C _ hCl n3 hC) (Nat.lt_of_lt_of_le hCl hgr.size) u.cells.1 u.cells.2 v.cells.1 v.cells.2
  have hcon := AnyQ.slices_SortFunc Try.sortLb 6 Try.isAgg33 Try.sizeOf33 (fun y : GL => lblCs y.1) (fun _ => rfl) (fun y v hv => lblF.one _ v hv) (fun x y : GL => cfP bf x.1 y.1) hO 56 #[.pointer (some ⟨C, 0, none⟩)] x off c g.toArray w eg hcmp hH hxl (by rw [List.size_toArray, hml]; have := hp.1; rw [hm] at this; omega)
  change Calls Try.prog 55 _ _ _ at hcon
  rw [List.size_toArray, hml] at hcon
  refine hcon.mono ?_
  rintro e w' ⟨rfl, d', k, os, q1, q2, rfl⟩
  have hord := ord_gl (bf := bf) hp rfl (by simpa [hml] using q1) (by simpa [hml] using q2)
  refine ⟨rfl, x, off, hx, rfl, ?_, grown_sortK _ 6 w x off k d' os⟩
  rw [← hord]
  have hH' := holdsK_sortWorldK_c (fun y : GL => lblCs y.1) 6 w x off g.toArray d' k os hH hxl q1.1
  exact holds_sl lblF (fun y : GL => y.1) (by simpa using hH') (Nat.lt_of_lt_of_le hxl (size_sortWorldK_c _ _ _ _ _ _ _ _)) (fun y _ => lbl_G y.2)
end Go.Proofs.Ytpbpnkklnbmkeaa

namespace Go.Proofs.Ytpbpnkklnbmkeaa
open Go.RowKit Go.Maps Go.Sort Go.Shelf Go.Lib

set_option maxHeartbeats 1000000 in
theorem freshLbl_any (a : Option Addr) (n c : Nat) (l : List LblD) (bs : List Nat) (w : World) (hT : LblL w a l bs) (hn : l.length = n) (hm : n ≤ 1048576) :
    Calls Try.prog 54 #[.slice a n c] w fun e w' => ∃ a' c' bs', e = .returned (.slice a' n c') ∧ LblL w' a' l bs' ∧ Fresh w w' bs' ∧ Bel w w' := by
  obtain ⟨i0, hi0, hz0, hz1, hz2⟩ := info_parts infoLb
  have hown0 : w.ownsRow w.heap.size 33 6 (.slice none 0 0) 0 [] := World.ownsRow_nil _ _ _ _
  go_enter Try.func54, Try.ntmps54
  go_wp2_with (first
    | (at_builtin; refine wpList_append_flat lblF (by decide) rfl _ _ 24 rfl w.heap.size 33 i0 (.agg #[.int .i64 0, .int .i64 0, .int .i64 0, .int .i64 0, .int .i64 0, .int .i64 0]) 48 Try.underlying24 hi0 hz0 hz1 hz2 rfl _ rfl hown0 a n c l bs rfl hT hn hm (by decide) (Nat.le_refl _) ?_)
    | go_in)
  intro a' c' bs' w3 HS HM hgrow
  have hB : Bel w w3 := bel_grow (Bel.refl _) hgrow (fun j e => by cases e)
  clear hgrow
  go_wp2
  go_ret
  exact ⟨_, _, bs', rfl, HS, HM.fresh (Nat.le_refl _), hB⟩
set_option maxHeartbeats 1000000 in
/-- slices.SortFunc at no label. -/
theorem sortLbl_none (p : Option Addr) (c : Nat) (fv : Value) (w : World) :
    Calls Try.prog 55 #[.slice p 0 c, fv] w fun e w' => e = .returned (.tuple #[]) ∧ w' = w := by
  have hcon := AnyF.slices_SortFunc_none Try.sortLb p c fv w
  change Calls Try.prog 55 _ _ _ at hcon
  exact hcon
theorem ordQ_nil (bf : List Int) : ordQ bf [] = [] := by simp [ordQ]
set_option maxRecDepth 100000 in
set_option maxHeartbeats 4000000 in
theorem inTurn_any (a : Option Addr) (n c : Nat) (l : List LblD) (bs : List Nat) (ai : Option Addr) (ni ci : Nat) (bf : List Int) (bi : List Nat) (w : World) (hT : LblL w a l bs) (hn : l.length = n) (hI : Ints w ai bf bi) (hni : bf.length = ni) (hmi : ni ≤ 1048576) (hp : lblsP l) :
    Calls Try.prog 33 #[.slice a n c, .slice ai ni ci] w fun e w' => ∃ a' c' bs', e = .returned (.slice a' n c') ∧ LblL w' a' (ordQ bf l) bs' ∧ (∀ x ∈ bs', w.heap.size ≤ x) ∧ Bel w w' := by
  have Hn : Hid (l.length = n) := hn
  have HP : Hid (lblsP l) := hp
  have hn5 : n ≤ 500 := by rw [← hn]; exact hp.1
  have hmm := @run_makeMap Try.prog
  have hsf : ∀ (ad : Addr) (caps : Array Value) (w : World), (store ad (.func (.func 53) #[] caps)).run Try.prog w = stored Try.prog w ad (.func (.func 53) #[] caps) .plain := fun ad caps w => run_store _ w ad _ .plain rfl
  obtain ⟨W1, HW1⟩ : ∃ W, Hid (W = (w.alloc (.map #[] 0)).alloc (.cells #[.map (some w.heap.size)] 56)) := ⟨_, (rfl : (w.alloc (.map #[] 0)).alloc (.cells #[.map (some w.heap.size)] 56) = _)⟩
  have hB1 : Bel w W1 := by rw [HW1.out]; exact bel_alloc (bel_alloc (Bel.refl _) _) _
  have hS1 : SetAt W1 w.heap.size 0 (fun _ => False) := by rw [HW1.out]; exact (SetAt.new w).bel (bel_alloc (Bel.refl _) _)
  have X1 : Blk W1 (w.heap.size + 1) [.map (some w.heap.size)] := by rw [HW1.out]; exact Blk.new1 w _ [.map (some w.heap.size)] _
  have x1 : W1.cell? ⟨w.heap.size + 1, 0, none⟩ = some (.map (some w.heap.size)) := X1.cell 0 (by simp)
  have x1l := X1.lt
  have hI1 := hI.bel intE hB1
  have hnb : w.heap.size ∉ bi := fun h => by have := hI.lt intE _ h; omega
  clear hn hp hI
  go_enter Try.func33, Try.ntmps33
  go_upto_region 2 with fail
  rw [← HW1.out]
  go_wp2_with fail
  refine (add_any _ _ _ _ _ _ bf bi _ hS1 hI1 hni hmi (by decide) hnb).mono ?_
  rintro e w2 ⟨rfl, hS2, hg2⟩
  have hB2 : Bel w w2 := bel_grow hB1 hg2 (fun k e => by injection e with e; omega)
  have X2 := X1.kept hg2 (fun e => by injection e with e; omega)
  have hT2 := hT.bel lblE hB2
  obtain ⟨W3, HW3⟩ : ∃ W, Hid (W = w2.alloc (.cells #[.func (.func 53) #[] #[.pointer (some ⟨w.heap.size + 1, 0, none⟩)]] 90)) := ⟨_, (rfl : w2.alloc (.cells #[.func (.func 53) #[] #[.pointer (some ⟨w.heap.size + 1, 0, none⟩)]] 90) = _)⟩
  have hb3 : Bel w2 W3 := by rw [HW3.out]; exact bel_alloc (Bel.refl _) _
  have X3 : Blk W3 w2.heap.size [.func (.func 53) #[] #[.pointer (some ⟨w.heap.size + 1, 0, none⟩)]] := by rw [HW3.out]; exact Blk.new w2 [.func (.func 53) #[] #[.pointer (some ⟨w.heap.size + 1, 0, none⟩)]] _
  have hB3 := bel_step hB2 hb3
  have hT3 := hT2.bel lblE hb3
  have hS3 := hS2.bel hb3
  have X23 := X2.bel hb3
  have HX3 : Hid (w.heap.size + 1 < w2.heap.size ∧ w2.heap.size < W3.heap.size) := ⟨X2.lt, X3.lt⟩
  clear hS1 hI1 hg2 x1 x1l X1 hS2 X2 hT2 hmm
  go_upto_region 4 with fail
  rw [← HW3.out]
  go_wp2_with fail
  refine (freshLbl_any a n c l bs _ hT3 Hn.out (by omega)).mono ?_
  rintro e w4 ⟨a4, c4, bs4, rfl, T4, F4, hb4⟩
  have hB4 := bel_step hB3 hb4
  have hS4 := hS3.bel hb4
  have X24 := X23.bel hb4
  have X34 := X3.bel hb4
  have hlo : ∀ x ∈ bs4, w.heap.size ≤ x := fun x hx => Nat.le_trans hB3.out.size (F4.new x hx).1
  clear hT3 hS3 X23 X3
  by_cases h0 : n = 0
  · subst h0
    obtain rfl : l = [] := List.length_eq_zero_iff.1 Hn.out
    go_wp2_with fail
    refine (sortLbl_none a4 c4 _ _).mono ?_
    rintro e w5 ⟨rfl, rfl⟩
    go_wp2
    go_ret
    exact ⟨a4, c4, bs4, rfl, by rw [ordQ_nil]; exact T4, hlo, hB4⟩
  · have hs : ∀ y, (y ∈ bf ∨ False) ↔ y ∈ bf := fun y => by simp
    have hne : ∀ x ∈ bs4, x ≠ w.heap.size ∧ x ≠ w.heap.size + 1 ∧ x ≠ w2.heap.size := fun x hx => by
      have h1 := (F4.new x hx).1
      have h3 := HX3.out
      omega
    go_wp2_with fail
    refine (sortLbl_any w2.heap.size (w.heap.size + 1) w.heap.size _ _ bf a4 n c4 l bs4 _ T4 Hn.out F4.free HP.out (by omega) hS4 hs (X24.cell 0 (by simp)) X24.lt (X34.cell 0 (by simp)) X34.lt hne).mono ?_
    rintro e w5 ⟨rfl, x, off, hx, rfl, T5, hg5⟩
    have hB5 : Bel w w5 := bel_grow hB4 hg5 (fun k e => by injection e with e; rw [← e]; exact hlo x hx)
    go_wp2
    go_ret
    exact ⟨_, c4, [x], rfl, T5, fun y hy => by rw [List.mem_singleton.1 hy]; exact hlo x hx, hB5⟩
end Go.Proofs.Ytpbpnkklnbmkeaa

namespace Go.Proofs.Ytpbpnkklnbmkeaa
open Go.RowKit Go.Maps

theorem intsV_len (l : List Int) : (intsV l).length = l.length := by simp [intsV]
/-- A row of the call's own whose place is known. -/
theorem own_at {base : Nat} {w : World} {g n cap : Nat} {l : List Int} (h : OwnI base w (.slice (some ⟨g, 0, none⟩) n cap) l) : base ≤ g ∧ g < w.heap.size ∧ n = l.length := by
  obtain ⟨_, h2⟩ := h
  rcases h2 with ⟨e, _⟩ | ⟨g', cap', cur, e, hb, hc, _⟩
  · cases e
  · injection e with e1 e2 e3
    injection e1 with e1
    injection e1 with e1
    subst e1
    refine ⟨hb, ?_, e2⟩
    rcases Nat.lt_or_ge g w.heap.size with h | h
    · exact h
    · rw [Array.getElem?_eq_none h] at hc; cases hc
/-- append of numbers to a row of the call's own. -/
theorem app_ints {w : World} {o : Oper} {a : Act} {K : Act → World → Prop} {Q : Exit → Act → World → Prop} (s x : Operand)
    (ho : o.op = .call { callee := .builtin .append, args := #[s, x], argTypes := #[25, 25] }) (base g0 n cap0 : Nat) (l : List Int)
    (hs : a.eval s = .slice (some ⟨g0, 0, none⟩) n cap0) (hown : OwnI base w (.slice (some ⟨g0, 0, none⟩) n cap0) l) (ad : Option Addr) (m c : Nat) (l2 : List Int) (hx : a.eval x = .slice ad m c) (bs : List Nat) (hT : Ints w ad l2 bs) (hl2 : l2.length = m)
    (r : Nat) (hr : n + m = r) (hm : r ≤ 1048576) (hbase : base ≤ w.heap.size)
    (h : ∀ g cap w', OwnI base w' (.slice (some ⟨g, 0, none⟩) r cap) (l ++ l2) → w.grownBy w' (some g0) → K (a.put o.dst (.slice (some ⟨g, 0, none⟩) r cap)) w') : o.wp Try.prog a w K Q := by
  obtain ⟨_, hg0, hn⟩ := own_at hown
  subst hn
  subst hr
  obtain ⟨i, hi, hz, hsz, hby⟩ := info_parts infoI
  by_cases h0 : m = 0
  · subst h0
    obtain rfl : l2 = [] := List.length_eq_zero_iff.1 hl2
    have hrun := run_append_zero (P := Try.prog) (w := w) base 25 o.type 2 i 1 Try.underlying25 hi _ l.length _ hown ad c
    unfold Oper.wp
    simp [execOp, ho, resolve, invoke, builtin, hs, hx, hrun, Result.andThen]
    have := h g0 cap0 w (by rw [List.append_nil]; exact hown) (World.grownBy.refl _ _)
    have this : K (a.put o.dst (.slice (some ⟨g0, 0, none⟩) l.length cap0)) w := by simpa using this
    exact this
  · obtain ⟨b, off, f, rfl, hb, hxx⟩ := hT.out (k := 0) (by omega)
    refine wp_append_lies w s x 25 ho base 2 i (.int .i64 0) 1 8 Try.underlying25 hi hz hsz hby rfl (by decide) _ l.length (intsV l) hs hown ⟨b, off, none⟩ m c (intsV l2) hx (by rw [intsV_len, hl2, Nat.mul_one]) (fun j u hu => ?_) (fun u hu => ?_) (by omega) (by unfold maxLen; omega) (by omega) hbase _ rfl ?_
    · rw [addr_add]
      unfold intsV at hu
      rw [List.getElem?_map] at hu
      obtain ⟨y, hy, rfl⟩ := Option.map_eq_some_iff.1 hu
      obtain ⟨hj, rfl⟩ := List.getElem?_eq_some_iff.1 hy
      have := (hxx j hj).2.2
      rwa [Nat.mul_one] at this
    · obtain ⟨y, _, rfl⟩ := List.mem_map.1 hu
      rfl
    · intro g cap w' hown' hgrow _ _
      refine h g cap w' ?_ hgrow
      unfold OwnI
      rw [List.length_append, hl2]
      have e : intsV (l ++ l2) = intsV l ++ intsV l2 := List.map_append
      rw [e]
      exact hown'
/-- The beginning of a row. -/
theorem ints_take {w : World} {a : Option Addr} {l : List Int} {bs : List Nat} (h : Ints w a l bs) (k : Nat) : ∃ bs', Ints w a (l.take k) bs' := by
  rcases h with ⟨rfl, rfl⟩ | ⟨b, off, f, rfl, hb, rfl, hx⟩
  · exact ⟨[], .inl ⟨by simp, rfl⟩⟩
  · exact ⟨_, .inr ⟨b, off, f, rfl, hb, rfl, fun i hi => by
      have hi' : i < l.length := by rw [List.length_take] at hi; omega
      rw [List.getElem_take]; exact hx i hi'⟩⟩
/-- The end of a row. -/
theorem ints_drop {w : World} {b off : Nat} {l : List Int} {bs : List Nat} (h : Ints w (some ⟨b, off, none⟩) l bs) (k : Nat) : ∃ bs', Ints w (some ⟨b, off + k, none⟩) (l.drop k) bs' := by
  rcases h with ⟨rfl, rfl⟩ | ⟨b', off', f, e, hb, rfl, hx⟩
  · exact ⟨[], .inl ⟨by simp, rfl⟩⟩
  · injection e with e
    injection e with e1 e2 e3
    subst e1; subst e2
    exact ⟨_, .inr ⟨b, off + k, fun i => f (k + i), rfl, hb, rfl, fun i hi => by
      have hi' : k + i < l.length := by rw [List.length_drop] at hi; omega
      rw [List.getElem_drop]
      have := hx (k + i) hi'
      rw [Nat.mul_one] at this ⊢
      rw [Nat.add_assoc]; exact this⟩⟩
/-- One number in a block of its own. -/
theorem ints_lit1 {w : World} {B : Nat} {x : Int} (h : w.cell? ⟨B, 0, none⟩ = some (.int .i64 x)) (hx : In64 x) : Ints w (some ⟨B, 0, none⟩) [x] [B] :=
  .inr ⟨B, 0, fun _ => [], rfl, World.block_lt_of_cell? w _ h, by simp, fun i hi => by
    obtain rfl : i = 0 := by simpa using hi
    exact ⟨rfl, hx, h⟩⟩
end Go.Proofs.Ytpbpnkklnbmkeaa

namespace Go.Proofs.Ytpbpnkklnbmkeaa
open Go.RowKit Go.Maps Go.Sort Go.Shelf Go.Lib
shelf_lay_g SlLaysM.n5 Slgm 5 at Try 36 as Try.sortI64

theorem putRow_grownI (w : World) (b off n : Nat) (d : Array Int) (os : Array Obj) : w.grownBy (grow (putRow (Value.int .i64) (Sort.ahead w n) b off d) os) (some b) := by
  refine ⟨rfl, rfl, rfl, by simp [grow, putRow, mapBlock, Sort.ahead], fun i hi hn => ?_⟩
  have hne : b ≠ i := fun e => hn (by rw [e])
  show (((Sort.ahead w n).heap.modify b _) ++ os)[i]? = w.heap[i]?
  rw [Array.getElem?_append_left (by simpa [Sort.ahead] using hi), Array.getElem?_modify, if_neg hne]
  rfl
theorem flat_nilO {β : Type} (n : Nat) : (List.range n).flatMap (fun _ => ([] : List β)) = [] := List.flatMap_eq_nil_iff.2 fun _ _ => rfl
set_option maxHeartbeats 1000000 in
theorem sortInt_any (base : Nat) (v : Value) (l : List Int) (w : World) (hO : OwnI base w v l) (hi : ∀ y ∈ l, In64 y) (hl : l.length ≤ 1048576) :
    Calls Try.prog 36 #[v] w fun e w' => e = .returned (.tuple #[]) ∧ (∃ a c bs, v = .slice a (ascI l).length c ∧ Ints w' a (ascI l) bs ∧ Mine base w' bs) ∧ w.grownBy w' v.ownBlock := by
  obtain ⟨a, c, bs, rfl, hT, hbs, hfz⟩ := own_ints hO hi
  rcases hT with ⟨rfl, rfl⟩ | ⟨b, off, f, rfl, hb, rfl, hx⟩
  · have hcon := AnyM.slices_Sort_int_none Try.sortI64 a c w
    change Calls Try.prog 36 _ _ _ at hcon
    refine hcon.mono ?_
    rintro e w' ⟨rfl, rfl⟩
    exact ⟨rfl, ⟨a, c, [], by simp [ascI], by simp only [ascI, List.mergeSort_nil]; exact Sl.nil, ⟨List.nodup_nil, (fun _ h => nomatch h), (fun _ h => nomatch h)⟩⟩, World.grownBy.refl _ _⟩
  · have hH : Holds (Value.int .i64) w b off l.toArray := fun j hj => by
      have hj' : j < l.length := by simpa using hj
      have h := (hx j hj').2.2
      rw [Nat.mul_one] at h
      refine ⟨?_, hfz b (by simp) _⟩
      rw [h, getElem!_pos l.toArray j hj]
      simp
    have hcon := AnyM.slices_Sort_int Try.sortI64 b off c l w hH hb (by omega)
    change Calls Try.prog 36 _ _ _ at hcon
    refine hcon.mono ?_
    rintro e w' ⟨rfl, n, os, rfl⟩
    have hlen : (ascI l).length = l.length := (ascI_perm l).length_eq
    have hg := putRow_grownI w b off n (ascI l).toArray os
    have hH2 : Holds (Value.int .i64) (grow (putRow (Value.int .i64) (Sort.ahead w n) b off (ascI l).toArray) os) b off (ascI l).toArray :=
      holds_grow _ _ os b off _ (by simpa [putRow, mapBlock, Sort.ahead] using hb) (holds_putRow _ _ b off l.toArray _ (fun j hj => hH j hj) (by simp [hlen]))
    have hb0 := hbs b (by simp)
    refine ⟨rfl, ⟨_, c, [b], by rw [hlen], .inr ⟨b, off, fun _ => [], rfl, Nat.lt_of_lt_of_le hb hg.size, by rw [flat_nilO], fun i hil => ⟨rfl, hi _ ((ascI_perm l).mem_iff.1 (List.getElem_mem hil)), ?_⟩⟩, ⟨by simp, fun x hx => by rw [List.mem_singleton.1 hx]; exact ⟨hb0.1, Nat.lt_of_lt_of_le hb hg.size⟩, fun x hx j => ?_⟩⟩, hg⟩
    · have h := (hH2 i (by simpa using hil)).1
      rw [Nat.mul_one]
      exact h.trans (by rw [getElem!_pos (ascI l).toArray i (by simpa using hil)]; simp)
    · rw [List.mem_singleton.1 hx]
      rw [frozen?_grow _ _ _ (by simpa [putRow, mapBlock, Sort.ahead] using hb), frozen?_putRow]
      exact hfz b (by simp) j
end Go.Proofs.Ytpbpnkklnbmkeaa
