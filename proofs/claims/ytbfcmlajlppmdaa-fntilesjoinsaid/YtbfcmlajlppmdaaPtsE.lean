/-
  Rows of points: held against each other, marked, the marks held: contracts.
-/
import Derived.Test.YtbfcmlajlppmdaaMarkD
import Derived.Test.YtbfcmlajlppmdaaCE
namespace Go.Proofs.Ytbfcmlajlppmdaa
open Go.RowKit Go.Maps

def mkPoint (k : Nat) : PtD := ⟨(k : Int), (k : Int) + 1⟩
def mkPoints (k : Nat) (l : List PtD) : List PtD := (List.range l.length).map fun i => mkPoint (k + 2 * i)
theorem mkPoints_len (k : Nat) (l : List PtD) : (mkPoints k l).length = l.length := by simp [mkPoints]

set_option maxHeartbeats 1000000 in
theorem eqPtS_same (a a' : Option Addr) (n c c' : Nat) (l : List PtD) (bs bs' : List Nat) (w : World) (hP : PtL w a l bs) (hP' : PtL w a' l bs') (hn : l.length = n) (hm : n ≤ 1048576) :
  Calls Try.prog 12 #[.slice a n c, .slice a' n c'] w fun e w' => e = .returned (.bool true) ∧ Bel w w' := by
 have Hn : Hid (l.length = n) := hn
 clear hn
 go_enter Try.func12, Try.ntmps12
 go_wp2
 go_loopw [5] (fun i wr => ∃ k : Nat, k ≤ n ∧ i = .int .i64 k ∧ Bel w wr) (fun i _ => n - (intOf i).toNat)
 case atStart => exact ⟨0, Nat.zero_le _, rfl, Bel.refl _⟩
 case round =>
  obtain ⟨k, hk, rfl, hbel⟩ := hrel
  by_cases hlt : k < n
  ·have hkl : k < l.length := by rw [Hn.out]; exact hlt
   obtain ⟨b, off, f, rfl, h2, h3⟩ := (hP.bel ptE hbel).out hkl
   obtain ⟨b', off', f', rfl, h2', h3'⟩ := (hP'.bel ptE hbel).out hkl
   obtain ⟨_, _, _, c0, c1⟩ := h3 k hkl
   obtain ⟨_, _, _, c0', c1'⟩ := h3' k hkl
   have hR : ∀ w', Bel wr w' → w'.cell? ⟨b, off + k * 2, none⟩ = some (.int .i64 l[k].x) ∧ w'.cell? ⟨b, off + k * 2 + 1, none⟩ = some (.int .i64 l[k].y) ∧ w'.cell? ⟨b', off' + k * 2, none⟩ = some (.int .i64 l[k].x) ∧ w'.cell? ⟨b', off' + k * 2 + 1, none⟩ = some (.int .i64 l[k].y) :=
    fun w' h => ⟨bel_cellM h h2 c0, bel_cellM h h2 c1, bel_cellM h h2' c0', bel_cellM h h2' c1'⟩
   have hlt' : (k : Int) < (n : Int) := by omega
   have g0 : Bel wr wr := Bel.refl _
   clear h3 h3' c0 c0' c1 c1' h2 h2' hP hP'
   go_wp2
   go_region_held3 (fun w' => Bel wr w') (repeat (first | exact g0 | refine Bel.drew ?_ | assumption | refine bel_then (by assumption) ?_))
    (first
     | (go_at_call 35; refine (eqPoint_same l[k].x l[k].y _).mono ?_; rintro e w' ⟨rfl, hbk⟩))
   have hH : Bel wr w' := by assumption
   go_wp2
   go_roundw
   case rel => exact ⟨k + 1, by omega, by go_num, bel_step hbel hH⟩
   case measure => simp [intOf]; omega
  ·have e : k = n := by omega
   subst e
   go_wp2
   go_ret
   exact ⟨rfl, hbel⟩


set_option maxRecDepth 100000 in
set_option maxHeartbeats 1000000 in
theorem markPointS_any (a : Option Addr) (n c : Nat) (l : List PtD) (bs : List Nat) (k : Nat) (w : World) (hT : PtL w a l bs) (hf : ∀ x ∈ bs, ∀ j, w.frozen? ⟨x, j, none⟩ = false) (hn : l.length = n) (hm : n ≤ 1048576) (h0k : 0 < k) (hk : k ≤ 1125899906842624) :
  Calls Try.prog 13 #[.slice a n c, .int .i64 k] w fun e w' => e = .returned (.int .i64 ((k + 2 * n : Nat) : Int)) ∧ PtL w' a (mkPoints k l) bs ∧ (∀ x ∈ bs, ∀ j, w'.frozen? ⟨x, j, none⟩ = false) ∧ Onl bs w w' := by
 by_cases h0 : n = 0
 ·subst h0
  obtain rfl : l = [] := List.length_eq_zero_iff.1 hn
  have HT : Hid (PtL w a (mkPoints k []) bs) := hT
  clear hT
  go_enter Try.func13, Try.ntmps13
  go_wp2
  go_loopw [1, 5] (fun t i wr => t = .int .i64 k ∧ i = .int .i64 0 ∧ wr = w) (fun _ _ _ => 0)
  case atStart => exact ⟨rfl, rfl, rfl⟩
  case round =>
   obtain ⟨rfl, rfl, rfl⟩ := hrel
   go_wp2
   go_ret
   exact ⟨by simp, HT.out, hf, Onl.refl _ _⟩
 ·rcases hT with ⟨rfl, _⟩ | ⟨b, off, f, rfl, hb, rfl, hx⟩
  ·exact absurd hn.symm h0
  ·have hfam : Fam 2 PtE w b off n (fun i => l.getD i ⟨0, 0⟩) f := fun i hi => by
    show PtE w b (off + i * 2) (l.getD i ⟨0, 0⟩) (f i)
    rw [getD_at ⟨0, 0⟩ (show i < l.length by omega)]
    exact hx i (by omega)
   have hbf : ∀ j, w.frozen? ⟨b, j, none⟩ = false := hf b (by simp)
   have Hn : Hid (l.length = n) := hn
   have hfe : ∀ i, i < n → f i = [] := fun i hi => (hfam i hi).1
   clear hn hx hf
   go_enter Try.func13, Try.ntmps13
   go_wp2
   go_loopw [1, 5] (fun t i wr => ∃ j : Nat, j ≤ n ∧ i = .int .i64 j ∧ t = .int .i64 ((k + 2 * j : Nat) : Int) ∧ Fam 2 PtE wr b off n (upto j (fun i => mkPoint (k + 2 * i)) (fun i => l.getD i ⟨0, 0⟩)) f ∧ (∀ x, wr.frozen? ⟨b, x, none⟩ = false) ∧ Onl [b] w wr) (fun _ i _ => n - (intOf i).toNat)
   case atStart => exact ⟨0, Nat.zero_le _, rfl, by simp, by rw [upto_zero]; exact hfam, hbf, Onl.refl _ _⟩
   case round =>
    obtain ⟨j, hj, rfl, rfl, hF, hfr, hO⟩ := hrel
    have hbr := Nat.lt_of_lt_of_le hb hO.size
    by_cases hlt : j < n
    ·obtain ⟨_, _, _, c0, c1⟩ := hF j hlt
     have f0 := hfr (off + j * 2)
     have f1 := hfr (off + j * 2 + 1)
     have hlt' : (j : Int) < (n : Int) := by omega
     obtain ⟨kk, hkk⟩ : ∃ kk, k + 2 * j = kk := ⟨_, rfl⟩
     have hk1 : 0 < kk := by omega
     have hk2 : kk ≤ 1125902004000000 := by omega
     have HK : Hid (k + 2 * (j + 1) = kk + 2) := (by omega : k + 2 * (j + 1) = kk + 2)
     have HM : Hid (mkPoint (k + 2 * j) = mkPoint kk) := (by rw [hkk] : mkPoint (k + 2 * j) = mkPoint kk)
     rw [hkk]
     have hstep : ∀ w', (∀ o, o < off + j * 2 ∨ off + j * 2 + 2 ≤ o → w'.cell? ⟨b, o, none⟩ = wr.cell? ⟨b, o, none⟩) → PtE w' b (off + j * 2) (mkPoint kk) [] → Fam 2 PtE w' b off n (upto (j + 1) (fun i => mkPoint (k + 2 * i)) (fun i => l.getD i ⟨0, 0⟩)) f := fun w' h1 h2 => by
      have := hF.step ptE (w' := w') (j := j) (mkPoint kk) h1 (fun i hi _ => by rw [hfe i hi]; exact fun x hx => nomatch hx) (by rw [hfe j hlt]; exact h2)
      rw [← HM.out, upto_step j (fun i => mkPoint (k + 2 * i)) (fun i => l.getD i ⟨0, 0⟩)] at this
      exact this
     clear hF hkk
     have hb3 : Bel (wr.setCell ⟨b, off + j * 2, none⟩ (.int .i64 kk)) (wr.setCell ⟨b, off + j * 2, none⟩ (.int .i64 kk)) := Bel.refl _
     have HF1 : Hid (Fam 2 PtE ((wr.setCell ⟨b, off + j * 2, none⟩ (.int .i64 kk)).setCell ⟨b, off + j * 2 + 1, none⟩ (.int .i64 ((kk : Int) + 1))) b off n (upto (j + 1) (fun i => mkPoint (k + 2 * i)) (fun i => l.getD i ⟨0, 0⟩)) f) :=
      hstep _ (fun o ho => pair_out hbr (Bel.refl _) hb3 ho) ⟨rfl, ⟨by show _ ≤ (kk : Int); omega, by show (kk : Int) ≤ _; omega⟩, ⟨by show _ ≤ (kk : Int) + 1; omega, by show (kk : Int) + 1 ≤ _; omega⟩, pair_fst hbr (Bel.refl _) hb3 c0, World.cell?_setCell_same _ _ _ (pair_mid hbr (Bel.refl _) hb3 c1)⟩
     have hO3 := (hO.set (b := b) (by simp) (off + j * 2) (.int .i64 kk)).set (b := b) (by simp) (off + j * 2 + 1) (.int .i64 ((kk : Int) + 1))
     have hfr3 : ∀ x, ((wr.setCell ⟨b, off + j * 2, none⟩ (.int .i64 kk)).setCell ⟨b, off + j * 2 + 1, none⟩ (.int .i64 ((kk : Int) + 1))).frozen? ⟨b, x, none⟩ = false := fun x => by rw [World.frozen?_setCell, World.frozen?_setCell]; exact hfr x
     clear hstep hO hb3
     go_wp2
     go_roundw
     case rel => exact ⟨j + 1, by omega, by go_num, by rw [HK.out]; go_num, HF1.out, hfr3, hO3⟩
     case measure => simp [intOf]; omega
    ·have e : n = j := by omega
     subst e
     have HS : Hid (PtL wr (some ⟨b, off, none⟩) (mkPoints k l) (b :: (List.range l.length).flatMap f)) := by
      rw [Hn.out]
      exact Sl.fam hF (Nat.lt_of_lt_of_le hb hO.size) (by rw [mkPoints_len]; exact Hn.out) (fun i hi => by
       rw [mkPoints_len, Hn.out] at hi
       simp [upto, mkPoints, hi])
     have HO : Hid (Onl (b :: (List.range l.length).flatMap f) w wr) := hO.mono (fun x hx => by simp at hx; simp [hx])
     have HR : Hid (∀ x ∈ b :: (List.range l.length).flatMap f, ∀ j, wr.frozen? ⟨x, j, none⟩ = false) := fun x hx j => by
      rcases List.mem_cons.1 hx with rfl | hx
      ·exact hfr j
      ·obtain ⟨i, hi, hx⟩ := List.mem_flatMap.1 hx
       rw [hfe i (by rw [← Hn.out]; exact List.mem_range.1 hi)] at hx
       exact nomatch hx
     clear hF hO
     go_wp2
     go_ret
     exact ⟨rfl, HS.out, HR.out, HO.out⟩


set_option maxRecDepth 100000 in
set_option maxHeartbeats 1000000 in
theorem heldPtS_any (a : Option Addr) (n c : Nat) (l : List PtD) (bs : List Nat) (k : Nat) (w : World) (hT : PtL w a (mkPoints k l) bs) (hn : l.length = n) (hm : n ≤ 1048576) (hk : k ≤ 1125899906842624) :
  Calls Try.prog 36 #[.slice a n c, .int .i64 k] w fun e w' => e = .returned (.int .i64 ((k + 2 * n : Nat) : Int)) ∧ w' = w := by
 by_cases h0 : n = 0
 ·subst h0
  clear hT
  go_enter Try.func36, Try.ntmps36
  go_wp2
  go_loopw [1, 5] (fun t i wr => t = .int .i64 k ∧ i = .int .i64 0 ∧ wr = w) (fun _ _ _ => 0)
  case atStart => exact ⟨rfl, rfl, rfl⟩
  case round =>
   obtain ⟨rfl, rfl, rfl⟩ := hrel
   go_wp2
   go_ret
   exact ⟨by simp, rfl⟩
 ·rcases hT with ⟨e, _⟩ | ⟨b, off, f, rfl, hb, rfl, hx⟩
  ·have := congrArg List.length e
   rw [mkPoints_len] at this
   exact absurd (hn.symm.trans this) h0
  ·have HC : Hid (∀ i, i < n → w.cell? ⟨b, off + i * 2, none⟩ = some (.int .i64 ((k : Int) + 2 * (i : Int))) ∧ w.cell? ⟨b, off + i * 2 + 1, none⟩ = some (.int .i64 ((k : Int) + 2 * (i : Int) + 1))) := fun i hi => by
    have hi' : i < (mkPoints k l).length := by rw [mkPoints_len]; omega
    have h := (hx i hi').2.2.2
    refine ⟨by rw [h.1]; simp [mkPoints, mkPoint], by rw [h.2]; simp [mkPoints, mkPoint]⟩
   clear hx
   go_enter Try.func36, Try.ntmps36
   go_wp2
   go_loopw [1, 5] (fun t i wr => ∃ j : Nat, j ≤ n ∧ i = .int .i64 j ∧ t = .int .i64 ((k : Int) + 2 * (j : Int)) ∧ wr = w) (fun _ i _ => n - (intOf i).toNat)
   case atStart => exact ⟨0, Nat.zero_le _, rfl, by simp, rfl⟩
   case round =>
    obtain ⟨j, hj, rfl, rfl, rfl⟩ := hrel
    by_cases hlt : j < n
    ·obtain ⟨cx, cy⟩ := HC.out j hlt
     have hlt' : (j : Int) < (n : Int) := by omega
     go_wp2
     go_roundw
     case rel => exact ⟨j + 1, by omega, by go_num, by go_num, trivial⟩
     case measure => simp [intOf]; omega
    ·have e : n = j := by omega
     subst e
     go_wp2
     go_ret
     exact ⟨ret_num (by omega), rfl⟩

end Go.Proofs.Ytbfcmlajlppmdaa
