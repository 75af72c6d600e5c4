/-
  Marks: the text of a mark, told exactly; a list of numbers marked and held: contracts.
  Points held against each other with == and !=.
  A row without repeats beside each other: the list, and how far it has been built.
  slices.Compact at points: its contract.
-/
import Derived.Test.YtldfcnlhjjiihaaGreatGC
import Derived.Laws.BytesString
import Derived.Laws.Concat
import Derived.Test.YtldfcnlhjjiihaaGreatGB
import Derived.Laws.IdiomCopy
import Derived.Deep.RegionHeld3
namespace Go.Proofs.YtldfcnlhjjiihaaGreat
open Go.RowKit Go.Maps

/-- One digit as a text. -/
def digT (d : Int) : ByteArray := ByteArray.empty.push (UInt8.ofNat d.toNat)
theorem digT_size (d : Int) : (digT d).size = 1 := rfl
/-- The digits of k ahead of what is there. -/
def mtx (k : Nat) (out : ByteArray) : ByteArray := if _h : 0 < k then mtx (k / 10) (digT (48 + (k : Int) % 10) ++ out) else out
termination_by k
decreasing_by omega
theorem mtx_zero (out : ByteArray) : mtx 0 out = out := by rw [mtx]; simp
theorem mtx_step {k : Nat} (h : 0 < k) (out : ByteArray) : mtx k out = mtx (k / 10) (digT (48 + (k : Int) % 10) ++ out) := by rw [mtx]; simp [h]
/-- The text of a mark. -/
def mT (k : Nat) : ByteArray := ⟨#[109]⟩ ++ mtx k ⟨#[]⟩

theorem conv_one (d : Int) (w : World) : (convert 209 9 (.slice (some ⟨w.heap.size, 0, none⟩) 1 1)).run Tryz.prog (w.alloc (.cells #[.int .u8 d] 5)) = .ok (.string (digT d)) (w.alloc (.cells #[.int .u8 d] 5)) := by
 rw [run_convert_bytes_string _ _ _ _ _ _ _ Tryz.underlying209 Tryz.underlying5 Tryz.underlying9]
 rw [run_bytesToString _ _ _ _ [d] (by simp [go_sem])]
 rfl

set_option maxRecDepth 100000 in
set_option maxHeartbeats 1000000 in
theorem markText_any (k : Nat) (w : World) (h0 : 0 < k) (h1 : k ≤ 4503599627370496) :
  Calls Tryz.prog 113 #[.int .i64 k] w fun e w' => e = .returned (.string (mT k)) ∧ Bel w w' := by
 have hcv := conv_one
 go_enter Tryz.func113, Tryz.ntmps113
 go_wp2
 go_loopw [0, 3] (fun a s wr => ∃ (j : Nat) (out : ByteArray), a = .int .i64 j ∧ s = .string out ∧ out.size + j ≤ k ∧ Hid (mtx j out = mtx k ⟨#[]⟩) ∧ Bel w wr) (fun a _ _ => (intOf a).toNat)
 case atStart => exact ⟨k, ⟨#[]⟩, rfl, rfl, by show 0 + k ≤ k; omega, (rfl : mtx k ⟨#[]⟩ = _), Bel.refl _⟩
 case round =>
  obtain ⟨j, out, rfl, rfl, hsz, HM, hbel⟩ := hrel
  by_cases hj : 0 < j
  ·have hj' : (0 : Int) < (j : Int) := by omega
   have hw : IntKind.u8.wrap (48 + (j : Int) % 10) = 48 + (j : Int) % 10 := by simp [IntKind.wrap, IntKind.signed, IntKind.bits]; omega
   have HS : Hid (mtx j out = mtx (j / 10) (digT (48 + (j : Int) % 10) ++ out)) := mtx_step hj out
   have hd := digT_size (48 + (j : Int) % 10)
   have hdz : ((digT (48 + (j : Int) % 10)).size : Int) ≤ 8388608 := by rw [hd]; decide
   have hsum : (digT (48 + (j : Int) % 10)).size + out.size ≤ 9223372036854775807 := by rw [hd]; omega
   have hadd := fun w => run_string_add_sum (P := Tryz.prog) w (digT (48 + (j : Int) % 10)) out hsum
   go_wp2
   go_roundw
   case rel => exact ⟨j / 10, digT (48 + (j : Int) % 10) ++ out, by go_num, rfl, by rw [ByteArray.size_append, hd]; omega, (by rw [← HS.out]; exact HM.out : mtx (j / 10) (digT (48 + (j : Int) % 10) ++ out) = mtx k ⟨#[]⟩), bel_alloc hbel _⟩
   case measure => simp [intOf]; omega
  ·obtain rfl : j = 0 := by omega
   have HE : Hid (out = mtx k ⟨#[]⟩) := (by rw [← HM.out, mtx_zero] : out = mtx k ⟨#[]⟩)
   have hsum : (ByteArray.mk #[109]).size + out.size ≤ 9223372036854775807 := by show 1 + out.size ≤ _; omega
   have hadd := fun w => run_string_add_sum (P := Tryz.prog) w ⟨#[109]⟩ out hsum
   go_wp2
   go_ret
   exact ⟨congrArg (fun s => Ending.returned (.string s)) (by unfold mT; rw [← HE.out]), hbel⟩

/-- All but these blocks is as it was. -/
structure Onl (bs : List Nat) (w w' : World) : Prop where
 os : w'.os = w.os
 tape : w'.tape = w.tape
 output : w'.output = w.output
 size : w.heap.size ≤ w'.heap.size
 block : ∀ i, i < w.heap.size → i ∉ bs → w'.heap[i]? = w.heap[i]?
theorem Onl.refl (bs : List Nat) (w : World) : Onl bs w w := ⟨rfl, rfl, rfl, Nat.le_refl _, fun _ _ _ => rfl⟩
theorem Onl.trans {bs : List Nat} {w w1 w2 : World} (h : Onl bs w w1) (k : Onl bs w1 w2) : Onl bs w w2 :=
 ⟨k.os.trans h.os, k.tape.trans h.tape, k.output.trans h.output, Nat.le_trans h.size k.size, fun i hi hn => by rw [k.block i (Nat.lt_of_lt_of_le hi h.size) hn, h.block i hi hn]⟩
theorem Onl.mono {bs cs : List Nat} {w w' : World} (h : Onl bs w w') (hs : ∀ x ∈ bs, x ∈ cs) : Onl cs w w' := ⟨h.os, h.tape, h.output, h.size, fun i hi hn => h.block i hi fun hm => hn (hs i hm)⟩
theorem Onl.bel {bs : List Nat} {w w1 w2 : World} (h : Onl bs w w1) (k : Bel w1 w2) : Onl bs w w2 := h.trans ⟨k.out.os, k.out.tape, k.out.output, k.out.size, fun i hi _ => k.out.block i hi⟩
theorem Onl.set {bs : List Nat} {w w1 : World} (h : Onl bs w w1) {b : Nat} (hb : b ∈ bs) (o : Nat) (v : Value) : Onl bs w (w1.setCell ⟨b, o, none⟩ v) :=
 h.trans ⟨rfl, rfl, rfl, by simp [World.setCell], fun i _ hn => Below.heap_setCell w1 ⟨b, o, none⟩ v i (fun e => hn (by rw [e]; exact hb))⟩
theorem Onl.alike {bs cs : List Nat} {w w' : World} (h : Onl bs w w') (hl : ∀ x ∈ cs, x < w.heap.size) (hd : ∀ x ∈ cs, x ∉ bs) : Alike w w' cs := fun b hb => by
 have e := h.block b (hl b hb) (hd b hb)
 exact ⟨Nat.lt_of_lt_of_le (hl b hb) h.size, fun o => World.cell?_of_block (a := ⟨b, o, none⟩) e, fun o => World.frozen?_of_block (a := ⟨b, o, none⟩) e⟩
theorem Onl.to_bel {bs : List Nat} {v w w' : World} (h : Bel v w) (k : Onl bs w w') (hn : ∀ x ∈ bs, v.heap.size ≤ x) : Bel v w' :=
 h.trans ⟨k.os, k.tape, k.output, k.size, fun i hi => k.block i (Nat.lt_of_lt_of_le hi h.out.size) fun hm => absurd (hn i hm) (Nat.not_le.2 hi)⟩

/-- n elements beside each other. -/
def Fam {α : Type} (q : Nat) (E : Elem α) (w : World) (b off n : Nat) (D : Nat → α) (f : Nat → List Nat) : Prop := ∀ i, i < n → E w b (off + i * q) (D i) (f i)
theorem Fam.step {α : Type} {q : Nat} {E : Elem α} (hE : Stays q E) {w w' : World} {b off n : Nat} {D : Nat → α} {f : Nat → List Nat} (h : Fam q E w b off n D f) {j : Nat} (d : α)
  (hc : ∀ o, o < off + j * q ∨ off + j * q + q ≤ o → w'.cell? ⟨b, o, none⟩ = w.cell? ⟨b, o, none⟩) (ha : ∀ i, i < n → i ≠ j → Alike w w' (f i)) (hn : E w' b (off + j * q) d (f j)) : Fam q E w' b off n (fun i => if i = j then d else D i) f := by
 intro i hi
 by_cases e : i = j
 ·subst e; simpa using hn
 ·simp only [if_neg e]
  refine hE.alike (h i hi) (fun x hx => hc _ ?_) (ha i hi e)
  rcases Nat.lt_or_gt_of_ne e with h1 | h1
  ·have := Nat.mul_le_mul_right q (show i + 1 ≤ j by omega)
   rw [Nat.add_mul, Nat.one_mul] at this
   omega
  ·have := Nat.mul_le_mul_right q (show j + 1 ≤ i by omega)
   rw [Nat.add_mul, Nat.one_mul] at this
   omega
/-- The first j as D1, the others as D0. -/
def upto {α : Type} (j : Nat) (D1 D0 : Nat → α) (i : Nat) : α := if i < j then D1 i else D0 i
theorem upto_step {α : Type} (j : Nat) (D1 D0 : Nat → α) : (fun i => if i = j then D1 j else upto j D1 D0 i) = upto (j + 1) D1 D0 := by
 funext i
 unfold upto
 by_cases e : i = j
 ·subst e; simp
 ·by_cases h : i < j
  ·simp [e, h, show i < j + 1 by omega]
  ·simp [e, h, show ¬ i < j + 1 by omega]
theorem upto_zero {α : Type} (D1 D0 : Nat → α) : upto 0 D1 D0 = D0 := by funext i; simp [upto]

theorem Sl.fam {α : Type} {q : Nat} {E : Elem α} {w : World} {b off : Nat} {l : List α} {n : Nat} {D : Nat → α} {f : Nat → List Nat} (h : Fam q E w b off n D f) (hb : b < w.heap.size) (hl : l.length = n) (hD : ∀ i (h : i < l.length), D i = l[i]) :
  Sl q E w (some ⟨b, off, none⟩) l (b :: (List.range n).flatMap f) :=
 .inr ⟨b, off, f, rfl, hb, by rw [hl], fun i hi => by rw [← hD i hi]; exact h i (by omega)⟩

/-- The numbers k, k + 1 and so on. -/
def mkInts (k : Nat) (l : List Int) : List Int := (List.range l.length).map fun i => ((k + i : Nat) : Int)
theorem mkInts_len (k : Nat) (l : List Int) : (mkInts k l).length = l.length := by simp [mkInts]

set_option maxRecDepth 100000 in
set_option maxHeartbeats 1000000 in
theorem markInt64S_any (a : Option Addr) (n c : Nat) (l : List Int) (bs : List Nat) (k : Nat) (w : World) (hT : Ints w a l bs) (hf : ∀ x ∈ bs, ∀ j, w.frozen? ⟨x, j, none⟩ = false) (hn : l.length = n) (hm : n ≤ 1048576) (hk : k ≤ 1125899906842624) :
  Calls Tryz.prog 68 #[.slice a n c, .int .i64 k] w fun e w' => e = .returned (.int .i64 ((k + n : Nat) : Int)) ∧ Ints w' a (mkInts k l) bs ∧ (∀ x ∈ bs, ∀ j, w'.frozen? ⟨x, j, none⟩ = false) ∧ Onl bs w w' := by
 by_cases h0 : n = 0
 ·subst h0
  obtain rfl : l = [] := List.length_eq_zero_iff.1 hn
  have HT : Hid (Ints w a (mkInts k []) bs) := hT
  clear hT
  go_enter Tryz.func68, Tryz.ntmps68
  go_wp2
  go_loopw [1, 5] (fun t i wr => t = .int .i64 k ∧ i = .int .i64 0 ∧ wr = w) (fun _ _ _ => 0)
  case atStart => exact ⟨rfl, rfl, rfl⟩
  case round =>
   obtain ⟨rfl, rfl, rfl⟩ := hrel
   go_wp2
   go_ret
   exact ⟨by simp, HT.out, hf, Onl.refl _ _⟩
 ·rcases hT with ⟨rfl, _⟩ | ⟨b, off, f, rfl, hb, rfl, hx⟩
  ·exact absurd hn.symm h0
  ·have hfam : Fam 1 IntE w b off n (fun i => l.getD i 0) f := fun i hi => by
    show IntE w b (off + i * 1) (l.getD i 0) (f i)
    rw [getD_at 0 (show i < l.length by omega)]
    exact hx i (by omega)
   have hbf : ∀ j, w.frozen? ⟨b, j, none⟩ = false := hf b (by simp)
   have Hn : Hid (l.length = n) := hn
   have HF : Hid (∀ x ∈ b :: (List.range l.length).flatMap f, ∀ j, w.frozen? ⟨x, j, none⟩ = false) := hf
   have hfe : ∀ i, i < n → f i = [] := fun i hi => (hfam i hi).1
   clear hn hx hf
   go_enter Tryz.func68, Tryz.ntmps68
   go_wp2
   go_loopw [1, 5] (fun t i wr => ∃ j : Nat, j ≤ n ∧ i = .int .i64 j ∧ t = .int .i64 ((k + j : Nat) : Int) ∧ Fam 1 IntE wr b off n (upto j (fun i => ((k + i : Nat) : Int)) (fun i => l.getD i 0)) f ∧ (∀ x, wr.frozen? ⟨b, x, none⟩ = false) ∧ Onl [b] w wr) (fun _ i _ => n - (intOf i).toNat)
   case atStart => exact ⟨0, Nat.zero_le _, rfl, by simp, by rw [upto_zero]; exact hfam, hbf, Onl.refl _ _⟩
   case round =>
    obtain ⟨j, hj, rfl, rfl, hF, hfr, hO⟩ := hrel
    by_cases hlt : j < n
    ·obtain ⟨_, _, cx⟩ := hF j hlt
     simp only [Nat.mul_one] at cx
     have f0 := hfr (off + j)
     have hlt' : (j : Int) < (n : Int) := by omega
     have HF1 : Hid (Fam 1 IntE (wr.setCell ⟨b, off + j, none⟩ (.int .i64 ((k + j : Nat) : Int))) b off n (upto (j + 1) (fun i => ((k + i : Nat) : Int)) (fun i => l.getD i 0)) f) := by
      have := hF.step intE (w' := wr.setCell ⟨b, off + j, none⟩ (.int .i64 ((k + j : Nat) : Int))) (j := j) ((k + j : Nat) : Int)
       (fun o ho => World.cell?_setCell_other _ _ _ _ (fun e => by have := congrArg Addr.off e; simp at this; omega))
       (fun i hi _ => by rw [hfe i hi]; exact fun x hx => nomatch hx)
       ⟨hfe j hlt, ⟨by omega, by omega⟩, by rw [Nat.mul_one]; exact World.cell?_setCell_same _ _ _ cx⟩
      rw [upto_step j (fun i => ((k + i : Nat) : Int)) (fun i => l.getD i 0)] at this
      exact this
     have hO1 := hO.set (b := b) (by simp) (off + j) (.int .i64 ((k + j : Nat) : Int))
     have hfr1 : ∀ x, (wr.setCell ⟨b, off + j, none⟩ (.int .i64 ((k + j : Nat) : Int))).frozen? ⟨b, x, none⟩ = false := fun x => by rw [World.frozen?_setCell]; exact hfr x
     clear hF hO
     go_wp2
     go_roundw
     case rel => exact ⟨j + 1, by omega, by go_num, by go_num, HF1.out, hfr1, hO1⟩
     case measure => simp [intOf]; omega
    ·have e : n = j := by omega
     subst e
     have HS : Hid (Ints wr (some ⟨b, off, none⟩) (mkInts k l) (b :: (List.range l.length).flatMap f)) := by
      rw [Hn.out]
      exact Sl.fam hF (Nat.lt_of_lt_of_le hb hO.size) (by rw [mkInts_len]; exact Hn.out) (fun i hi => by
       rw [mkInts_len, Hn.out] at hi
       simp [upto, mkInts, hi])
     have HO : Hid (Onl (b :: (List.range l.length).flatMap f) w wr) := hO.mono (fun x hx => by simp at hx; simp [hx])
     have HR : Hid (∀ x ∈ b :: (List.range l.length).flatMap f, ∀ j, wr.frozen? ⟨x, j, none⟩ = false) := fun x hx j => by
      rcases List.mem_cons.1 hx with rfl | hx
      ·exact hfr j
      ·obtain ⟨i, hi, hx⟩ := List.mem_flatMap.1 hx
       rw [hfe i (by rw [← Hn.out]; exact List.mem_range.1 hi)] at hx
       exact nomatch hx
     clear hF hO
     go_wp2
     go_ret
     exact ⟨rfl, HS.out, HR.out, HO.out⟩
end Go.Proofs.YtldfcnlhjjiihaaGreat

namespace Go.Proofs.YtldfcnlhjjiihaaGreat
open Go.RowKit

theorem ptEq (x y x' y' : Int) (w : World) : Sem.run Tryz.prog (binOp .eql 61 (.agg #[.int .i64 x, .int .i64 y]) (.agg #[.int .i64 x', .int .i64 y'])) w = .ok (.bool (decide (x = x') && decide (y = y'))) w := by
 by_cases h1 : x = x' <;> by_cases h2 : y = y' <;> go_simp
theorem ptNe (x y x' y' : Int) (w : World) : Sem.run Tryz.prog (binOp .neq 61 (.agg #[.int .i64 x, .int .i64 y]) (.agg #[.int .i64 x', .int .i64 y'])) w = .ok (.bool (!(decide (x = x') && decide (y = y')))) w := by
 by_cases h1 : x = x' <;> by_cases h2 : y = y' <;> go_simp
theorem pt_same {x y x' y' : Int} (h : x = x' ∧ y = y') : (decide (x = x') && decide (y = y')) = true := by simp [h.1, h.2]
theorem pt_diff {x y x' y' : Int} (h : ¬ (x = x' ∧ y = y')) : (decide (x = x') && decide (y = y')) = false := by
 rw [Bool.and_eq_false_iff, decide_eq_false_iff_not, decide_eq_false_iff_not]
 rcases Classical.em (x = x') with h1 | h1
 ·exact .inr fun h2 => h ⟨h1, h2⟩
 ·exact .inl h1
end Go.Proofs.YtldfcnlhjjiihaaGreat

namespace Go.Proofs.YtldfcnlhjjiihaaGreat
open Go.RowKit

/-- The k-th point stays. -/
def Kep (X Y : Nat → Int) (k : Nat) : Prop := k = 0 ∨ ¬ (X k = X (k - 1) ∧ Y k = Y (k - 1))
instance (X Y : Nat → Int) (k : Nat) : Decidable (Kep X Y k) := inferInstanceAs (Decidable (_ ∨ _))
def cpL (X Y : Nat → Int) : Nat → List PtD
 | 0 => []
 | k + 1 => if Kep X Y k then cpL X Y k ++ [⟨X k, Y k⟩] else cpL X Y k
theorem cpL_yes {X Y : Nat → Int} {k : Nat} (h : Kep X Y k) : cpL X Y (k + 1) = cpL X Y k ++ [⟨X k, Y k⟩] := if_pos h
theorem cpL_no {X Y : Nat → Int} {k : Nat} (h : ¬ Kep X Y k) : cpL X Y (k + 1) = cpL X Y k := if_neg h
theorem cpL_len (X Y : Nat → Int) : ∀ k, (cpL X Y k).length ≤ k
 | 0 => Nat.le_refl _
 | k + 1 => by
  have := cpL_len X Y k
  by_cases h : Kep X Y k
  ·rw [cpL_yes h, List.length_append]; simp; exact this
  ·rw [cpL_no h]; omega
theorem cpL_pos (X Y : Nat → Int) : ∀ k, 0 < (cpL X Y (k + 1)).length
 | 0 => by rw [cpL_yes (.inl rfl)]; simp
 | k + 1 => by
  have := cpL_pos X Y k
  by_cases h : Kep X Y (k + 1)
  ·rw [cpL_yes h]; simp
  ·rw [cpL_no h]; exact this
/-- The last one that stays is as the last one. -/
theorem cpL_last (X Y : Nat → Int) : ∀ k, ∃ l, cpL X Y (k + 1) = l ++ [⟨X k, Y k⟩]
 | 0 => ⟨[], by rw [cpL_yes (.inl rfl)]; rfl⟩
 | k + 1 => by
  by_cases h : Kep X Y (k + 1)
  ·exact ⟨_, cpL_yes h⟩
  ·obtain ⟨l, e⟩ := cpL_last X Y k
   refine ⟨l, ?_⟩
   rw [cpL_no h, e]
   have h' : X (k + 1) = X k ∧ Y (k + 1) = Y k := by
    rcases Classical.em (X (k + 1) = X k ∧ Y (k + 1) = Y k) with hh | hh
    ·exact hh
    ·exact absurd (.inr hh) h
   rw [h'.1, h'.2]
theorem cpL_all {X Y : Nat → Int} : ∀ k, (∀ j, j < k → Kep X Y j) → cpL X Y k = (List.range k).map fun i => ⟨X i, Y i⟩
 | 0, _ => rfl
 | k + 1, h => by rw [cpL_yes (h k (by omega)), cpL_all k (fun j hj => h j (by omega)), List.range_succ, List.map_append]; rfl
theorem cpL_in {X Y : Nat → Int} {P : PtD → Prop} : ∀ k, (∀ j, j < k → P ⟨X j, Y j⟩) → ∀ d ∈ cpL X Y k, P d
 | 0, _, d, hd => nomatch hd
 | k + 1, h, d, hd => by
  have ih := cpL_in (P := P) k (fun j hj => h j (by omega))
  by_cases hk : Kep X Y k
  ·rw [cpL_yes hk] at hd
   rcases List.mem_append.1 hd with hd | hd
   ·exact ih d hd
   ·rw [List.mem_singleton.1 hd]; exact h k (by omega)
  ·rw [cpL_no hk] at hd; exact ih d hd
end Go.Proofs.YtldfcnlhjjiihaaGreat

namespace Go.Proofs.YtldfcnlhjjiihaaGreat
open Go.RowKit Go.Maps

/-- The second loop: t points have been looked at, kk stay. -/
structure CInv (w wr : World) (b off n : Nat) (X Y : Nat → Int) (t kk : Nat) : Prop where
 len : (cpL X Y t).length = kk
 lt : kk < t
 low : ∀ i (h : i < (cpL X Y t).length), wr.cell? ⟨b, off + i * 2, none⟩ = some (.int .i64 (cpL X Y t)[i].x) ∧ wr.cell? ⟨b, off + i * 2 + 1, none⟩ = some (.int .i64 (cpL X Y t)[i].y)
 high : ∀ i, kk ≤ i → i < n → wr.cell? ⟨b, off + i * 2, none⟩ = some (.int .i64 (X i)) ∧ wr.cell? ⟨b, off + i * 2 + 1, none⟩ = some (.int .i64 (Y i))
 fr : ∀ j, wr.frozen? ⟨b, j, none⟩ = false
 bl : b < wr.heap.size
 onl : Onl [b] w wr

theorem CInv.bel {w wr w' : World} {b off n : Nat} {X Y : Nat → Int} {t kk : Nat} (h : CInv w wr b off n X Y t kk) (hb : Bel wr w') : CInv w w' b off n X Y t kk :=
 ⟨h.len, h.lt, fun i hi => ⟨bel_cellM hb h.bl (h.low i hi).1, bel_cellM hb h.bl (h.low i hi).2⟩, fun i h1 h2 => ⟨bel_cellM hb h.bl (h.high i h1 h2).1, bel_cellM hb h.bl (h.high i h1 h2).2⟩, fun j => by rw [hb.out.frozen (p := ⟨b, j, none⟩) h.bl]; exact h.fr j, bel_lt hb h.bl, h.onl.bel hb⟩
theorem CInv.skip {w wr : World} {b off n : Nat} {X Y : Nat → Int} {t kk : Nat} (h : CInv w wr b off n X Y t kk) (hk : ¬ Kep X Y t) : CInv w wr b off n X Y (t + 1) kk := by
 obtain ⟨h1, h2, h3, h4, h5, h6, h7⟩ := h
 have e := cpL_no hk
 exact ⟨by rw [e]; exact h1, by omega, by rw [e]; exact h3, h4, h5, h6, h7⟩
theorem CInv.keep {w wr : World} {b off n : Nat} {X Y : Nat → Int} {t kk : Nat} (h : CInv w wr b off n X Y t kk) (hk : Kep X Y t) (ht : t < n) : CInv w (setRow wr b (off + kk * 2) [.int .i64 (X t), .int .i64 (Y t)]) b off n X Y (t + 1) (kk + 1) := by
 obtain ⟨h1, h2, h3, h4, h5, h6, h7⟩ := h
 have e := cpL_yes hk
 have S := setRow_in b [.int .i64 (X t), .int .i64 (Y t)] wr (off + kk * 2) (fun j hj => by
  match j, hj with
  | 0, _ => exact ⟨_, (h4 kk (Nat.le_refl _) (by omega)).1⟩
  | 1, _ => exact ⟨_, (h4 kk (Nat.le_refl _) (by omega)).2⟩)
 refine ⟨by rw [e, List.length_append, h1]; rfl, by omega, ?_, fun i hi hn => ?_, fun j => by rw [setRow_frozen]; exact h5 j, by rw [setRow_size]; exact h6, ?_⟩
 ·rw [e]
  intro i hi
  rw [List.length_append, h1] at hi
  by_cases hlt : i < kk
  ·have hi' : i < (cpL X Y t).length := by omega
   rw [List.getElem_append_left hi', setRow_out b _ _ _ _ (.inl (by omega)), setRow_out b _ _ _ _ (.inl (by omega))]
   exact h3 i hi'
  ·obtain rfl : i = kk := by simp at hi; omega
   have e2 : (cpL X Y t ++ [⟨X t, Y t⟩])[i]'(by rw [List.length_append, h1]; simp) = ⟨X t, Y t⟩ := by
    rw [List.getElem_append_right (by omega)]; simp [h1]
   rw [e2]
   exact ⟨S 0 (by simp), S 1 (by simp)⟩
 ·rw [setRow_out b _ _ _ _ (.inr (by simp; omega)), setRow_out b _ _ _ _ (.inr (by simp; omega))]
  exact h4 i (by omega) hn
 ·exact (h7.set (by simp) _ _).set (by simp) _ _
/-- What clear leaves. -/
def zer2 (n : Nat) : List Value := List.replicate (n * 2) (.int .i64 0)
theorem zeroCells2 (n : Nat) : (Builtin.zeroCells #[.int .i64 0, .int .i64 0] n).toList = zer2 n := by
 unfold zer2
 apply List.ext_getElem
 ·simp [Builtin.zeroCells]
 ·intro i h1 h2
  simp [Builtin.zeroCells]
  rcases (show i % 2 = 0 ∨ i % 2 = 1 by omega) with h | h <;> simp [h]
theorem run_clear_pts (w : World) (ty : TypeId) (b o n c : Nat) (hn : 0 < n) (hc : ∀ j, j < n * 2 → (w.cell? ⟨b, o + j, none⟩).isSome = true) (hf : ∀ j, j < n * 2 → w.frozen? ⟨b, o + j, none⟩ = false) :
  (Builtin.clear_ #[54] ty #[.slice (some ⟨b, o, none⟩) n c]).run Tryz.prog w = .ok (.tuple #[]) (w.setCells b o (zer2 n)) := by
 have hst := run_storeCells_cells (P := Tryz.prog) b o (zer2 n) 0 w (by simpa [zer2] using hc) (by simpa [zer2] using hf) (by intro v hv; rw [List.eq_of_mem_replicate hv]; rfl)
 simp only [Nat.add_zero] at hst
 have hz : ∀ w, (zeroValue 61).run Tryz.prog w = .ok (.agg #[.int .i64 0, .int .i64 0]) w := fun w => by kernel_rfl
 obtain ⟨m, rfl⟩ : ∃ m, n = m + 1 := ⟨n - 1, by omega⟩
 have hzc : Builtin.zeroCells (Value.agg #[.int .i64 0, .int .i64 0]).cells (m + 1) = Builtin.zeroCells #[.int .i64 0, .int .i64 0] (m + 1) := rfl
 simp [Builtin.clear_, run_underlying Tryz.underlying54, hz, hzc, zeroCells2, hst]
theorem setCells_eq (b : Nat) : ∀ (vs : List Value) (w : World) (o : Nat), w.setCells b o vs = setRow w b o vs
 | [], _, _ => rfl
 | v :: r, w, o => by rw [setRow, ← setCells_eq b r]; rfl

theorem onl_setRow {bs : List Nat} {b : Nat} (hb : b ∈ bs) : ∀ (vs : List Value) (o : Nat) {w wr : World}, Onl bs w wr → Onl bs w (setRow wr b o vs)
 | [], _, _, _, h => h
 | v :: r, o, _, _, h => onl_setRow hb r (o + 1) (h.set hb o v)

set_option maxRecDepth 100000 in
set_option maxHeartbeats 4000000 in
theorem compact_any (b off n c : Nat) (X Y : Nat → Int) (w : World) (hb : b < w.heap.size) (hc : ∀ i, i < n → w.cell? ⟨b, off + i * 2, none⟩ = some (.int .i64 (X i)) ∧ w.cell? ⟨b, off + i * 2 + 1, none⟩ = some (.int .i64 (Y i)))
  (hf : ∀ j, w.frozen? ⟨b, j, none⟩ = false) (hn : n ≤ 1048576) (hcap : n ≤ c) (hc9 : c ≤ 9223372036854775807) (m : Nat) (hm : (cpL X Y n).length = m) :
  Calls Tryz.prog 107 #[.slice (some ⟨b, off, none⟩) n c] w fun e w' => e = .returned (.slice (some ⟨b, off, none⟩) m c) ∧
   (∀ i (h : i < (cpL X Y n).length), w'.cell? ⟨b, off + i * 2, none⟩ = some (.int .i64 (cpL X Y n)[i].x) ∧ w'.cell? ⟨b, off + i * 2 + 1, none⟩ = some (.int .i64 (cpL X Y n)[i].y)) ∧ (∀ j, w'.frozen? ⟨b, j, none⟩ = false) ∧ Onl [b] w w' := by
 obtain ⟨L, HL⟩ : ∃ L, Hid (cpL X Y n = L) := ⟨_, (rfl : cpL X Y n = _)⟩
 have HA : Hid ((∀ j, j < n → Kep X Y j) → L.length = n ∧ ∀ i (h : i < L.length), L[i] = ⟨X i, Y i⟩) := fun h => by
  have e := cpL_all n h
  rw [HL.out] at e
  subst e
  exact ⟨by simp, fun i hi => by simp⟩
 have Hm : Hid (L.length = m) := by rw [← HL.out]; exact hm
 clear hm
 rw [HL.out]
 by_cases h2 : n < 2
 ·obtain ⟨e1, e2⟩ := HA.out (fun j hj => by
   rcases (show j = 0 ∨ j = 1 by omega) with rfl | rfl
   ·exact .inl rfl
   ·omega)
  have HC : Hid (∀ i (h : i < L.length), w.cell? ⟨b, off + i * 2, none⟩ = some (.int .i64 L[i].x) ∧ w.cell? ⟨b, off + i * 2 + 1, none⟩ = some (.int .i64 L[i].y)) := fun i h => by rw [e2 i h]; exact hc i (by omega)
  obtain rfl : m = n := Hm.out.symm.trans e1
  clear e1 e2 hc
  go_enter Tryz.func107, Tryz.ntmps107
  go_wp2
  go_ret
  exact ⟨rfl, HC.out, hf, Onl.refl _ _⟩
 ·have Hc : Hid (∀ i, i < n → w.cell? ⟨b, off + i * 2, none⟩ = some (.int .i64 (X i)) ∧ w.cell? ⟨b, off + i * 2 + 1, none⟩ = some (.int .i64 (Y i))) := hc
  clear hc
  go_enter Tryz.func107, Tryz.ntmps107
  go_wp2
  go_loopw [3] (fun s wr => ∃ k q : Nat, 1 ≤ k ∧ k ≤ n ∧ s = .int .i64 k ∧ wr = w.drewN q ∧ ∀ j, j < k → Kep X Y j) (fun s _ => n - (intOf s).toNat)
  case atStart => exact ⟨1, 0, Nat.le_refl _, by omega, rfl, rfl, fun j hj => .inl (by omega)⟩
  case round =>
   obtain ⟨k, q, hk1, hk, rfl, rfl, hall⟩ := hrel
   have HK : Hid (∀ j, j < k → Kep X Y j) := hall
   clear hall
   by_cases hlt : k < n
   ·obtain ⟨cx, cy⟩ := Hc.out k hlt
    obtain ⟨dx, dy⟩ := Hc.out (k - 1) (by omega)
    obtain ⟨k1, hk'⟩ : ∃ k1, k = k1 + 1 := ⟨k - 1, by omega⟩
    subst hk'
    rw [Nat.add_sub_cancel] at dx dy
    obtain ⟨x, Hx⟩ : ∃ x, Hid (X (k1 + 1) = x) := ⟨_, (rfl : X (k1 + 1) = _)⟩
    obtain ⟨y, Hy⟩ : ∃ x, Hid (Y (k1 + 1) = x) := ⟨_, (rfl : Y (k1 + 1) = _)⟩
    obtain ⟨x', Hx'⟩ : ∃ x, Hid (X k1 = x) := ⟨_, (rfl : X k1 = _)⟩
    obtain ⟨y', Hy'⟩ : ∃ x, Hid (Y k1 = x) := ⟨_, (rfl : Y k1 = _)⟩
    rw [Hx.out] at cx; rw [Hy.out] at cy; rw [Hx'.out] at dx; rw [Hy'.out] at dy
    have i1 : (((k1 + 1 : Nat) : Int)) < (n : Int) := by omega
    have i2 : ((k1 : Int)) < (n : Int) := by omega
    have i3 : (((k1 + 1 : Nat) : Int)) - 1 = (k1 : Int) := by omega
    have i4 : k1 < n := by omega
    have i5 : (0 : Int) ≤ (k1 : Int) := by omega
    by_cases hdup : x = x' ∧ y = y'
    ·have HKn : Hid (¬ Kep X Y (k1 + 1)) := by
      rintro (h | h)
      ·cases h
      ·rw [Hx.out, Hy.out, Nat.add_sub_cancel, Hx'.out, Hy'.out] at h
       exact h hdup
     have heq := fun w => ptEq x y x' y' w
     rw [pt_same hdup] at heq
     have HS : Hid (CInv w w b off n X Y (k1 + 1 + 1) (k1 + 1)) := by
      have e := cpL_no HKn.out
      have e2 := cpL_all (k1 + 1) HK.out
      refine ⟨by rw [e, e2]; simp, by omega, ?_, fun i _ h2 => Hc.out i h2, hf, hb, Onl.refl _ _⟩
      rw [e, e2]
      intro i hi
      simp at hi
      simp
      exact Hc.out i (by omega)
     clear hdup
     go_wp2
     go_quiet (fail)
     have HS1 : Hid (CInv w (w.drewN (q + nq)) b off n X Y (k1 + 1 + 1) (k1 + 1)) := HS.out.bel (bel_drewN (Bel.refl _) _)
     clear heq cx cy dx dy HS
     go_wp2
     go_loopw [3, 5] (fun s t wr => ∃ kk k2 : Nat, s = .int .i64 kk ∧ t = .int .i64 k2 ∧ 1 ≤ k2 ∧ k1 + 1 + k2 ≤ n ∧ CInv w wr b off n X Y (k1 + 1 + k2) kk) (fun _ t _ => n - (intOf t).toNat)
     case atStart => exact ⟨k1 + 1, 1, by go_num, rfl, Nat.le_refl _, by omega, HS1.out⟩
     case round =>
      obtain ⟨kk, k2, rfl, rfl, h1, hle, hI⟩ := hrel
      have HI : Hid (CInv w wr b off n X Y (k1 + 1 + k2) kk) := hI
      have hkk := hI.lt
      by_cases hlt2 : k1 + 1 + k2 < n
      ·obtain ⟨k3, hk3⟩ : ∃ k3, k2 = k3 + 1 := ⟨k2 - 1, by omega⟩
       subst hk3
       obtain ⟨cx, cy⟩ := hI.high (k1 + 1 + (k3 + 1)) (by omega) hlt2
       obtain ⟨dx, dy⟩ := hI.high (k1 + 1 + k3) (by omega) (by omega)
       obtain ⟨ex, ey⟩ := hI.high kk (Nat.le_refl _) (by omega)
       have fr0 := hI.fr (off + kk * 2)
       have fr1 := hI.fr (off + kk * 2 + 1)
       obtain ⟨u, Hu⟩ : ∃ x, Hid (X (k1 + 1 + (k3 + 1)) = x) := ⟨_, (rfl : X (k1 + 1 + (k3 + 1)) = _)⟩
       obtain ⟨v, Hv⟩ : ∃ x, Hid (Y (k1 + 1 + (k3 + 1)) = x) := ⟨_, (rfl : Y (k1 + 1 + (k3 + 1)) = _)⟩
       obtain ⟨u', Hu'⟩ : ∃ x, Hid (X (k1 + 1 + k3) = x) := ⟨_, (rfl : X (k1 + 1 + k3) = _)⟩
       obtain ⟨v', Hv'⟩ : ∃ x, Hid (Y (k1 + 1 + k3) = x) := ⟨_, (rfl : Y (k1 + 1 + k3) = _)⟩
       rw [Hu.out] at cx; rw [Hv.out] at cy; rw [Hu'.out] at dx; rw [Hv'.out] at dy
       rw [show off + (k1 + 1 + (k3 + 1)) * 2 = off + (k1 + 1) * 2 + (k3 + 1) * 2 by omega] at cx cy
       rw [show off + (k1 + 1 + k3) * 2 = off + (k1 + 1) * 2 + k3 * 2 by omega] at dx dy
       have j1 : (((k3 + 1 : Nat) : Int)) < ((n - (k1 + 1) : Nat) : Int) := by omega
       have j2 : ((k3 : Int)) < ((n - (k1 + 1) : Nat) : Int) := by omega
       have j3 : (((k3 + 1 : Nat) : Int)) - 1 = (k3 : Int) := by omega
       have j4 : k3 < n - (k1 + 1) := by omega
       have j5 : k3 + 1 < n - (k1 + 1) := by omega
       have j6 : (kk : Int) < (n : Int) := by omega
       have j7 : kk < n := by omega
       have HD : Hid (k1 + 1 + (k3 + 1) + 1 = k1 + 1 + (k3 + 1 + 1)) := (by omega : k1 + 1 + (k3 + 1) + 1 = k1 + 1 + (k3 + 1 + 1))
       clear hI
       by_cases huv : u = u' ∧ v = v'
       ·have HKs : Hid (¬ Kep X Y (k1 + 1 + (k3 + 1))) := by
         rintro (h | h)
         ·omega
         ·rw [Hu.out, Hv.out, show k1 + 1 + (k3 + 1) - 1 = k1 + 1 + k3 by omega, Hu'.out, Hv'.out] at h
          exact h huv
        have heq := fun w => ptNe u v u' v' w
        rw [pt_same huv, Bool.not_true] at heq
        go_wp2
        go_quiet (fail)
        have HS1 : Hid (CInv w (wr.drewN nq) b off n X Y (k1 + 1 + (k3 + 1 + 1)) kk) := by rw [← HD.out]; exact (HI.out.skip HKs.out).bel (bel_drewN (Bel.refl _) _)
        clear heq cx cy dx dy ex ey HI
        go_wp2
        go_roundw
        case rel => exact ⟨kk, k3 + 1 + 1, rfl, by go_num, by omega, by omega, HS1.out⟩
        case measure => simp [intOf]; omega
       ·have HKs : Hid (Kep X Y (k1 + 1 + (k3 + 1))) := .inr (by rw [Hu.out, Hv.out, show k1 + 1 + (k3 + 1) - 1 = k1 + 1 + k3 by omega, Hu'.out, Hv'.out]; exact huv)
        have heq := fun w => ptNe u v u' v' w
        rw [pt_diff huv, Bool.not_false] at heq
        go_wp2
        go_quiet (fail)
        have HS1 : Hid (CInv w (((wr.drewN nq).setCell ⟨b, off + kk * 2, none⟩ (.int .i64 u)).setCell ⟨b, off + kk * 2 + 1, none⟩ (.int .i64 v)) b off n X Y (k1 + 1 + (k3 + 1 + 1)) (kk + 1)) := by
         have := (HI.out.bel (bel_drewN (Bel.refl _) nq)).keep HKs.out hlt2
         rw [Hu.out, Hv.out, HD.out] at this
         exact this
        clear heq HI
        go_wp2
        go_roundw
        case rel => exact ⟨kk + 1, k3 + 1 + 1, by go_num, by go_num, by omega, by omega, HS1.out⟩
        case measure => simp [intOf]; omega
      ·have hend : k1 + 1 + k2 = n := by omega
       have HE : Hid (kk = m) := by
        have := hI.len
        rw [hend, HL.out, Hm.out] at this
        exact this.symm
       obtain rfl := HE.out
       have hpos : 0 < n - kk := by omega
       have hcl : ∀ ty, (Builtin.clear_ #[54] ty #[.slice (some ⟨b, off + kk * 2, none⟩) (n - kk) (c - kk)]).run Tryz.prog wr = .ok (.tuple #[]) (wr.setCells b (off + kk * 2) (zer2 (n - kk))) :=
        fun ty => run_clear_pts wr ty b (off + kk * 2) (n - kk) (c - kk) hpos (fun j hj => by
         have h1 : kk + j / 2 < n := by omega
         obtain ⟨c0, c1⟩ := hI.high (kk + j / 2) (by omega) h1
         rcases (show j % 2 = 0 ∨ j % 2 = 1 by omega) with h | h
         ·rw [show off + kk * 2 + j = off + (kk + j / 2) * 2 by omega, c0]; rfl
         ·rw [show off + kk * 2 + j = off + (kk + j / 2) * 2 + 1 by omega, c1]; rfl) (fun j _ => hI.fr _)
       have HF : Hid ((∀ i (h : i < L.length), (wr.setCells b (off + kk * 2) (zer2 (n - kk))).cell? ⟨b, off + i * 2, none⟩ = some (.int .i64 L[i].x) ∧ (wr.setCells b (off + kk * 2) (zer2 (n - kk))).cell? ⟨b, off + i * 2 + 1, none⟩ = some (.int .i64 L[i].y)) ∧ (∀ j, (wr.setCells b (off + kk * 2) (zer2 (n - kk))).frozen? ⟨b, j, none⟩ = false) ∧ Onl [b] w (wr.setCells b (off + kk * 2) (zer2 (n - kk)))) := by
        rw [setCells_eq]
        have hlow := hI.low
        rw [hend, HL.out] at hlow
        refine ⟨fun i hi => ?_, fun j => by rw [setRow_frozen]; exact hI.fr j, ?_⟩
        ·have hik : i < kk := by rw [← Hm.out]; exact hi
         rw [setRow_out b _ _ _ _ (.inl (by omega)), setRow_out b _ _ _ _ (.inl (by omega))]
         exact hlow i hi
        ·exact onl_setRow (by simp) _ _ hI.onl
       clear hI HI
       go_wp2
       go_ret
       exact ⟨rfl, HF.out⟩
    ·have HKn : Hid (Kep X Y (k1 + 1)) := .inr (by rw [Hx.out, Hy.out, Nat.add_sub_cancel, Hx'.out, Hy'.out]; exact hdup)
     have heq := fun w => ptEq x y x' y' w
     rw [pt_diff hdup] at heq
     go_wp2
     go_quiet (fail)
     go_wp2
     go_roundw
     case rel => exact ⟨k1 + 1 + 1, q + nq, by omega, by omega, by go_num, rfl, fun j hj => by (by_cases e : j = k1 + 1); (subst e; exact HKn.out); exact HK.out j (by omega)⟩
     case measure => simp [intOf]; omega
   ·obtain rfl : k = n := by omega
    obtain ⟨e1, e2⟩ := HA.out HK.out
    obtain rfl : m = k := Hm.out.symm.trans e1
    have HC : Hid (∀ i (h : i < L.length), (w.drewN q).cell? ⟨b, off + i * 2, none⟩ = some (.int .i64 L[i].x) ∧ (w.drewN q).cell? ⟨b, off + i * 2 + 1, none⟩ = some (.int .i64 L[i].y)) := fun i h => by
     rw [e2 i h]
     obtain ⟨c0, c1⟩ := Hc.out i (by omega)
     exact ⟨bel_cellM (bel_drewN (Bel.refl _) _) hb c0, bel_cellM (bel_drewN (Bel.refl _) _) hb c1⟩
    have hfr : ∀ j, (w.drewN q).frozen? ⟨b, j, none⟩ = false := fun j => by rw [(bel_drewN (Bel.refl w) q).out.frozen (p := ⟨b, j, none⟩) hb]; exact hf j
    clear e1 e2 Hc
    go_wp2
    go_ret
    exact ⟨rfl, HC.out, hfr, (Onl.refl _ _).bel (bel_drewN (Bel.refl _) _)⟩
end Go.Proofs.YtldfcnlhjjiihaaGreat
