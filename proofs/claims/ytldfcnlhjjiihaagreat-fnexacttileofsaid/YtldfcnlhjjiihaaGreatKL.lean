/-
  Tags and Parts, marked: contracts.
  Rows of points: held against each other, marked, the marks held: contracts.
-/
import Derived.Test.YtldfcnlhjjiihaaGreatCC
import Derived.Test.YtldfcnlhjjiihaaGreatCE
namespace Go.Proofs.YtldfcnlhjjiihaaGreat
open Go.RowKit Go.Maps

theorem mtx_size (k : Nat) : ∀ out : ByteArray, (mtx k out).size ≤ out.size + k := by
 induction k using Nat.strongRecOn with
 | ind k ih =>
  intro out
  by_cases h : 0 < k
  ·rw [mtx_step h]
   have := ih (k / 10) (by omega) (digT (48 + (k : Int) % 10) ++ out)
   rw [ByteArray.size_append, digT_size] at this
   omega
  ·obtain rfl : k = 0 := by omega
   rw [mtx_zero]; omega
theorem mT_size (k : Nat) : (mT k).size ≤ k + 1 := by
 unfold mT
 rw [ByteArray.size_append]
 have := mtx_size k ⟨#[]⟩
 have e : (ByteArray.mk #[]).size = 0 := rfl
 have e' : (ByteArray.mk #[109]).size = 1 := rfl
 omega

theorem pair_out {w w1 w3 : World} {b p o : Nat} {u v : Value} (hb : b < w.heap.size) (h1 : Bel w w1) (h3 : Bel (w1.setCell ⟨b, p, none⟩ u) w3) (ho : o < p ∨ p + 2 ≤ o) :
  (w3.setCell ⟨b, p + 1, none⟩ v).cell? ⟨b, o, none⟩ = w.cell? ⟨b, o, none⟩ := by
 have hb2 : b < (w1.setCell ⟨b, p, none⟩ u).heap.size := by simpa [World.setCell] using bel_lt h1 hb
 rw [World.cell?_setCell_other _ _ _ _ (fun e => by have := congrArg Addr.off e; simp at this; omega), h3.out.cell (p := ⟨b, o, none⟩) hb2,
  World.cell?_setCell_other _ _ _ _ (fun e => by have := congrArg Addr.off e; simp at this; omega), h1.out.cell (p := ⟨b, o, none⟩) hb]
theorem pair_fst {w w1 w3 : World} {b p : Nat} {u v x : Value} (hb : b < w.heap.size) (h1 : Bel w w1) (h3 : Bel (w1.setCell ⟨b, p, none⟩ u) w3) (hx : w.cell? ⟨b, p, none⟩ = some x) :
  (w3.setCell ⟨b, p + 1, none⟩ v).cell? ⟨b, p, none⟩ = some u := by
 have hb2 : b < (w1.setCell ⟨b, p, none⟩ u).heap.size := by simpa [World.setCell] using bel_lt h1 hb
 rw [World.cell?_setCell_other _ _ _ _ (fun e => by have := congrArg Addr.off e; simp at this), h3.out.cell (p := ⟨b, p, none⟩) hb2]
 exact World.cell?_setCell_same _ _ _ (bel_cellM h1 hb hx)
theorem pair_mid {w w1 w3 : World} {b p : Nat} {u x : Value} (hb : b < w.heap.size) (h1 : Bel w w1) (h3 : Bel (w1.setCell ⟨b, p, none⟩ u) w3) (hx : w.cell? ⟨b, p + 1, none⟩ = some x) : w3.cell? ⟨b, p + 1, none⟩ = some x := by
 have hb2 : b < (w1.setCell ⟨b, p, none⟩ u).heap.size := by simpa [World.setCell] using bel_lt h1 hb
 refine bel_cellM h3 hb2 ?_
 rw [World.cell?_setCell_other _ _ _ _ (fun e => by have := congrArg Addr.off e; simp at this)]
 exact bel_cellM h1 hb hx

/-- A marked tag, a marked part. -/
def mkTag (k : Nat) : TagD := ⟨mT k, mT (k + 1)⟩
def mkPart (k : Nat) : PartD := ⟨(k : Int), ((k : Int) + 1) % 3 == 0⟩
def mkTags (k : Nat) (l : List TagD) : List TagD := (List.range l.length).map fun i => mkTag (k + 2 * i)
def mkParts (k : Nat) (l : List PartD) : List PartD := (List.range l.length).map fun i => mkPart (k + 2 * i)
theorem mkTags_len (k : Nat) (l : List TagD) : (mkTags k l).length = l.length := by simp [mkTags]
theorem mkParts_len (k : Nat) (l : List PartD) : (mkParts k l).length = l.length := by simp [mkParts]


set_option maxRecDepth 100000 in
set_option maxHeartbeats 1000000 in
theorem markTagS_any (a : Option Addr) (n c : Nat) (l : List TagD) (bs : List Nat) (k : Nat) (w : World) (hT : Tags w a l bs) (hf : ∀ x ∈ bs, ∀ j, w.frozen? ⟨x, j, none⟩ = false) (hn : l.length = n) (hm : n ≤ 1048576) (h0k : 0 < k) (hk : k ≤ 1125899906842624) :
  Calls Tryz.prog 67 #[.slice a n c, .int .i64 k] w fun e w' => e = .returned (.int .i64 ((k + 2 * n : Nat) : Int)) ∧ Tags w' a (mkTags k l) bs ∧ (∀ x ∈ bs, ∀ j, w'.frozen? ⟨x, j, none⟩ = false) ∧ Onl bs w w' := by
 by_cases h0 : n = 0
 ·subst h0
  obtain rfl : l = [] := List.length_eq_zero_iff.1 hn
  have HT : Hid (Tags w a (mkTags k []) bs) := hT
  clear hT
  go_enter Tryz.func67, Tryz.ntmps67
  go_wp2
  go_loopw [1, 5] (fun t i wr => t = .int .i64 k ∧ i = .int .i64 0 ∧ wr = w) (fun _ _ _ => 0)
  case atStart => exact ⟨rfl, rfl, rfl⟩
  case round =>
   obtain ⟨rfl, rfl, rfl⟩ := hrel
   go_wp2
   go_ret
   exact ⟨by simp, HT.out, hf, Onl.refl _ _⟩
 ·rcases hT with ⟨rfl, _⟩ | ⟨b, off, f, rfl, hb, rfl, hx⟩
  ·exact absurd hn.symm h0
  ·have hfam : Fam 2 TagE w b off n (fun i => l.getD i ⟨⟨#[]⟩, ⟨#[]⟩⟩) f := fun i hi => by
    show TagE w b (off + i * 2) (l.getD i ⟨⟨#[]⟩, ⟨#[]⟩⟩) (f i)
    rw [getD_at ⟨⟨#[]⟩, ⟨#[]⟩⟩ (show i < l.length by omega)]
    exact hx i (by omega)
   have hbf : ∀ j, w.frozen? ⟨b, j, none⟩ = false := hf b (by simp)
   have Hn : Hid (l.length = n) := hn
   have hfe : ∀ i, i < n → f i = [] := fun i hi => (hfam i hi).1
   clear hn hx hf
   go_enter Tryz.func67, Tryz.ntmps67
   go_wp2
   go_loopw [1, 5] (fun t i wr => ∃ j : Nat, j ≤ n ∧ i = .int .i64 j ∧ t = .int .i64 ((k + 2 * j : Nat) : Int) ∧ Fam 2 TagE wr b off n (upto j (fun i => mkTag (k + 2 * i)) (fun i => l.getD i ⟨⟨#[]⟩, ⟨#[]⟩⟩)) f ∧ (∀ x, wr.frozen? ⟨b, x, none⟩ = false) ∧ Onl [b] w wr) (fun _ i _ => n - (intOf i).toNat)
   case atStart => exact ⟨0, Nat.zero_le _, rfl, by simp, by rw [upto_zero]; exact hfam, hbf, Onl.refl _ _⟩
   case round =>
    obtain ⟨j, hj, rfl, rfl, hF, hfr, hO⟩ := hrel
    have hbr := Nat.lt_of_lt_of_le hb hO.size
    by_cases hlt : j < n
    ·obtain ⟨_, _, _, c0, c1⟩ := hF j hlt
     have f0 := hfr (off + j * 2)
     have f1 := hfr (off + j * 2 + 1)
     have hlt' : (j : Int) < (n : Int) := by omega
     obtain ⟨kk, hkk⟩ : ∃ kk, k + 2 * j = kk := ⟨_, rfl⟩
     have hk1 : 0 < kk := by omega
     have hk2 : kk ≤ 1125902004000000 := by omega
     have HK : Hid (k + 2 * (j + 1) = kk + 2) := (by omega : k + 2 * (j + 1) = kk + 2)
     have HM : Hid (mkTag (k + 2 * j) = mkTag kk) := (by rw [hkk] : mkTag (k + 2 * j) = mkTag kk)
     rw [hkk]
     have hstep : ∀ w', (∀ o, o < off + j * 2 ∨ off + j * 2 + 2 ≤ o → w'.cell? ⟨b, o, none⟩ = wr.cell? ⟨b, o, none⟩) → TagE w' b (off + j * 2) (mkTag kk) [] → Fam 2 TagE w' b off n (upto (j + 1) (fun i => mkTag (k + 2 * i)) (fun i => l.getD i ⟨⟨#[]⟩, ⟨#[]⟩⟩)) f := fun w' h1 h2 => by
      have := hF.step tagE (w' := w') (j := j) (mkTag kk) h1 (fun i hi _ => by rw [hfe i hi]; exact fun x hx => nomatch hx) (by rw [hfe j hlt]; exact h2)
      rw [← HM.out, upto_step j (fun i => mkTag (k + 2 * i)) (fun i => l.getD i ⟨⟨#[]⟩, ⟨#[]⟩⟩)] at this
      exact this
     clear hF hkk
     go_wp2_with fail
     refine (markText_any kk _ hk1 (by omega)).mono ?_
     rintro e w1 ⟨rfl, hb1⟩
     have g0 := bel_cellM hb1 hbr c0
     have fr1 : ∀ x, w1.frozen? ⟨b, x, none⟩ = false := fun x => by rw [hb1.out.frozen (p := ⟨b, x, none⟩) hbr]; exact hfr x
     have hO1 := (hO.bel hb1).set (b := b) (by simp) (off + j * 2) (.string (mT kk))
     have HKN : Hid ((kk : Int) + 1 = ((kk + 1 : Nat) : Int)) := (by omega : (kk : Int) + 1 = ((kk + 1 : Nat) : Int))
     go_wp2_with fail
     rw [HKN.out]
     refine (markText_any (kk + 1) _ (by omega) (by omega)).mono ?_
     rintro e w3 ⟨rfl, hb3⟩
     have g1 := pair_mid hbr hb1 hb3 c1
     have hb2 : b < (w1.setCell ⟨b, off + j * 2, none⟩ (.string (mT kk))).heap.size := by simpa [World.setCell] using bel_lt hb1 hbr
     have fr3 : ∀ x, w3.frozen? ⟨b, x, none⟩ = false := fun x => by rw [hb3.out.frozen (p := ⟨b, x, none⟩) hb2, World.frozen?_setCell]; exact fr1 x
     have HF1 : Hid (Fam 2 TagE (w3.setCell ⟨b, off + j * 2 + 1, none⟩ (.string (mT (kk + 1)))) b off n (upto (j + 1) (fun i => mkTag (k + 2 * i)) (fun i => l.getD i ⟨⟨#[]⟩, ⟨#[]⟩⟩)) f) :=
      hstep _ (fun o ho => pair_out hbr hb1 hb3 ho) ⟨rfl, by have := mT_size kk; unfold maxLen; show (mT kk).size ≤ _; omega, by have := mT_size (kk + 1); unfold maxLen; show (mT (kk + 1)).size ≤ _; omega, pair_fst hbr hb1 hb3 c0, World.cell?_setCell_same _ _ _ g1⟩
     have hO3 := (hO1.bel hb3).set (b := b) (by simp) (off + j * 2 + 1) (.string (mT (kk + 1)))
     have hfr3 : ∀ x, (w3.setCell ⟨b, off + j * 2 + 1, none⟩ (.string (mT (kk + 1)))).frozen? ⟨b, x, none⟩ = false := fun x => by rw [World.frozen?_setCell]; exact fr3 x
     clear hstep hO hO1 hb1 hb3 c0 c1 g0
     go_wp2
     go_roundw
     case rel => exact ⟨j + 1, by omega, by go_num, by rw [HK.out]; go_num, HF1.out, hfr3, hO3⟩
     case measure => simp [intOf]; omega
    ·have e : n = j := by omega
     subst e
     have HS : Hid (Tags wr (some ⟨b, off, none⟩) (mkTags k l) (b :: (List.range l.length).flatMap f)) := by
      rw [Hn.out]
      exact Sl.fam hF (Nat.lt_of_lt_of_le hb hO.size) (by rw [mkTags_len]; exact Hn.out) (fun i hi => by
       rw [mkTags_len, Hn.out] at hi
       simp [upto, mkTags, hi])
     have HO : Hid (Onl (b :: (List.range l.length).flatMap f) w wr) := hO.mono (fun x hx => by simp at hx; simp [hx])
     have HR : Hid (∀ x ∈ b :: (List.range l.length).flatMap f, ∀ j, wr.frozen? ⟨x, j, none⟩ = false) := fun x hx j => by
      rcases List.mem_cons.1 hx with rfl | hx
      ·exact hfr j
      ·obtain ⟨i, hi, hx⟩ := List.mem_flatMap.1 hx
       rw [hfe i (by rw [← Hn.out]; exact List.mem_range.1 hi)] at hx
       exact nomatch hx
     clear hF hO
     go_wp2
     go_ret
     exact ⟨rfl, HS.out, HR.out, HO.out⟩


set_option maxRecDepth 100000 in
set_option maxHeartbeats 1000000 in
theorem markPartS_any (a : Option Addr) (n c : Nat) (l : List PartD) (bs : List Nat) (k : Nat) (w : World) (hT : Parts w a l bs) (hf : ∀ x ∈ bs, ∀ j, w.frozen? ⟨x, j, none⟩ = false) (hn : l.length = n) (hm : n ≤ 1048576) (h0k : 0 < k) (hk : k ≤ 1125899906842624) :
  Calls Tryz.prog 69 #[.slice a n c, .int .i64 k] w fun e w' => e = .returned (.int .i64 ((k + 2 * n : Nat) : Int)) ∧ Parts w' a (mkParts k l) bs ∧ (∀ x ∈ bs, ∀ j, w'.frozen? ⟨x, j, none⟩ = false) ∧ Onl bs w w' := by
 by_cases h0 : n = 0
 ·subst h0
  obtain rfl : l = [] := List.length_eq_zero_iff.1 hn
  have HT : Hid (Parts w a (mkParts k []) bs) := hT
  clear hT
  go_enter Tryz.func69, Tryz.ntmps69
  go_wp2
  go_loopw [1, 5] (fun t i wr => t = .int .i64 k ∧ i = .int .i64 0 ∧ wr = w) (fun _ _ _ => 0)
  case atStart => exact ⟨rfl, rfl, rfl⟩
  case round =>
   obtain ⟨rfl, rfl, rfl⟩ := hrel
   go_wp2
   go_ret
   exact ⟨by simp, HT.out, hf, Onl.refl _ _⟩
 ·rcases hT with ⟨rfl, _⟩ | ⟨b, off, f, rfl, hb, rfl, hx⟩
  ·exact absurd hn.symm h0
  ·have hfam : Fam 2 PartE w b off n (fun i => l.getD i ⟨0, false⟩) f := fun i hi => by
    show PartE w b (off + i * 2) (l.getD i ⟨0, false⟩) (f i)
    rw [getD_at ⟨0, false⟩ (show i < l.length by omega)]
    exact hx i (by omega)
   have hbf : ∀ j, w.frozen? ⟨b, j, none⟩ = false := hf b (by simp)
   have Hn : Hid (l.length = n) := hn
   have hfe : ∀ i, i < n → f i = [] := fun i hi => (hfam i hi).1
   clear hn hx hf
   go_enter Tryz.func69, Tryz.ntmps69
   go_wp2
   go_loopw [1, 5] (fun t i wr => ∃ j : Nat, j ≤ n ∧ i = .int .i64 j ∧ t = .int .i64 ((k + 2 * j : Nat) : Int) ∧ Fam 2 PartE wr b off n (upto j (fun i => mkPart (k + 2 * i)) (fun i => l.getD i ⟨0, false⟩)) f ∧ (∀ x, wr.frozen? ⟨b, x, none⟩ = false) ∧ Onl [b] w wr) (fun _ i _ => n - (intOf i).toNat)
   case atStart => exact ⟨0, Nat.zero_le _, rfl, by simp, by rw [upto_zero]; exact hfam, hbf, Onl.refl _ _⟩
   case round =>
    obtain ⟨j, hj, rfl, rfl, hF, hfr, hO⟩ := hrel
    have hbr := Nat.lt_of_lt_of_le hb hO.size
    by_cases hlt : j < n
    ·obtain ⟨_, _, c0, c1⟩ := hF j hlt
     have f0 := hfr (off + j * 2)
     have f1 := hfr (off + j * 2 + 1)
     have hlt' : (j : Int) < (n : Int) := by omega
     obtain ⟨kk, hkk⟩ : ∃ kk, k + 2 * j = kk := ⟨_, rfl⟩
     have hk1 : 0 < kk := by omega
     have hk2 : kk ≤ 1125902004000000 := by omega
     have HK : Hid (k + 2 * (j + 1) = kk + 2) := (by omega : k + 2 * (j + 1) = kk + 2)
     have HM : Hid (mkPart (k + 2 * j) = mkPart kk) := (by rw [hkk] : mkPart (k + 2 * j) = mkPart kk)
     rw [hkk]
     have hstep : ∀ w', (∀ o, o < off + j * 2 ∨ off + j * 2 + 2 ≤ o → w'.cell? ⟨b, o, none⟩ = wr.cell? ⟨b, o, none⟩) → PartE w' b (off + j * 2) (mkPart kk) [] → Fam 2 PartE w' b off n (upto (j + 1) (fun i => mkPart (k + 2 * i)) (fun i => l.getD i ⟨0, false⟩)) f := fun w' h1 h2 => by
      have := hF.step partE (w' := w') (j := j) (mkPart kk) h1 (fun i hi _ => by rw [hfe i hi]; exact fun x hx => nomatch hx) (by rw [hfe j hlt]; exact h2)
      rw [← HM.out, upto_step j (fun i => mkPart (k + 2 * i)) (fun i => l.getD i ⟨0, false⟩)] at this
      exact this
     clear hF hkk
     have hb3 : Bel (wr.setCell ⟨b, off + j * 2, none⟩ (.int .i64 kk)) (wr.setCell ⟨b, off + j * 2, none⟩ (.int .i64 kk)) := Bel.refl _
     have HF1 : Hid (Fam 2 PartE ((wr.setCell ⟨b, off + j * 2, none⟩ (.int .i64 kk)).setCell ⟨b, off + j * 2 + 1, none⟩ (.bool (((kk : Int) + 1) % 3 == 0))) b off n (upto (j + 1) (fun i => mkPart (k + 2 * i)) (fun i => l.getD i ⟨0, false⟩)) f) :=
      hstep _ (fun o ho => pair_out hbr (Bel.refl _) hb3 ho) ⟨rfl, ⟨by show _ ≤ (kk : Int); omega, by show (kk : Int) ≤ _; omega⟩, pair_fst hbr (Bel.refl _) hb3 c0, World.cell?_setCell_same _ _ _ (pair_mid hbr (Bel.refl _) hb3 c1)⟩
     have hO3 := (hO.set (b := b) (by simp) (off + j * 2) (.int .i64 kk)).set (b := b) (by simp) (off + j * 2 + 1) (.bool (((kk : Int) + 1) % 3 == 0))
     have hfr3 : ∀ x, ((wr.setCell ⟨b, off + j * 2, none⟩ (.int .i64 kk)).setCell ⟨b, off + j * 2 + 1, none⟩ (.bool (((kk : Int) + 1) % 3 == 0))).frozen? ⟨b, x, none⟩ = false := fun x => by rw [World.frozen?_setCell, World.frozen?_setCell]; exact hfr x
     clear hstep hO hb3
     go_wp2
     go_roundw
     case rel => exact ⟨j + 1, by omega, by go_num, by rw [HK.out]; go_num, HF1.out, hfr3, hO3⟩
     case measure => simp [intOf]; omega
    ·have e : n = j := by omega
     subst e
     have HS : Hid (Parts wr (some ⟨b, off, none⟩) (mkParts k l) (b :: (List.range l.length).flatMap f)) := by
      rw [Hn.out]
      exact Sl.fam hF (Nat.lt_of_lt_of_le hb hO.size) (by rw [mkParts_len]; exact Hn.out) (fun i hi => by
       rw [mkParts_len, Hn.out] at hi
       simp [upto, mkParts, hi])
     have HO : Hid (Onl (b :: (List.range l.length).flatMap f) w wr) := hO.mono (fun x hx => by simp at hx; simp [hx])
     have HR : Hid (∀ x ∈ b :: (List.range l.length).flatMap f, ∀ j, wr.frozen? ⟨x, j, none⟩ = false) := fun x hx j => by
      rcases List.mem_cons.1 hx with rfl | hx
      ·exact hfr j
      ·obtain ⟨i, hi, hx⟩ := List.mem_flatMap.1 hx
       rw [hfe i (by rw [← Hn.out]; exact List.mem_range.1 hi)] at hx
       exact nomatch hx
     clear hF hO
     go_wp2
     go_ret
     exact ⟨rfl, HS.out, HR.out, HO.out⟩

end Go.Proofs.YtldfcnlhjjiihaaGreat

namespace Go.Proofs.YtldfcnlhjjiihaaGreat
open Go.RowKit Go.Maps

def mkPoint (k : Nat) : PtD := ⟨(k : Int), (k : Int) + 1⟩
def mkPoints (k : Nat) (l : List PtD) : List PtD := (List.range l.length).map fun i => mkPoint (k + 2 * i)
theorem mkPoints_len (k : Nat) (l : List PtD) : (mkPoints k l).length = l.length := by simp [mkPoints]

set_option maxHeartbeats 1000000 in
theorem eqPtS_same (a a' : Option Addr) (n c c' : Nat) (l : List PtD) (bs bs' : List Nat) (w : World) (hP : PtL w a l bs) (hP' : PtL w a' l bs') (hn : l.length = n) (hm : n ≤ 1048576) :
  Calls Tryz.prog 108 #[.slice a n c, .slice a' n c'] w fun e w' => e = .returned (.bool true) ∧ Bel w w' := by
 have Hn : Hid (l.length = n) := hn
 clear hn
 go_enter Tryz.func108, Tryz.ntmps108
 go_wp2
 go_loopw [5] (fun i wr => ∃ k : Nat, k ≤ n ∧ i = .int .i64 k ∧ Bel w wr) (fun i _ => n - (intOf i).toNat)
 case atStart => exact ⟨0, Nat.zero_le _, rfl, Bel.refl _⟩
 case round =>
  obtain ⟨k, hk, rfl, hbel⟩ := hrel
  by_cases hlt : k < n
  ·have hkl : k < l.length := by rw [Hn.out]; exact hlt
   obtain ⟨b, off, f, rfl, h2, h3⟩ := (hP.bel ptE hbel).out hkl
   obtain ⟨b', off', f', rfl, h2', h3'⟩ := (hP'.bel ptE hbel).out hkl
   obtain ⟨_, _, _, c0, c1⟩ := h3 k hkl
   obtain ⟨_, _, _, c0', c1'⟩ := h3' k hkl
   have hR : ∀ w', Bel wr w' → w'.cell? ⟨b, off + k * 2, none⟩ = some (.int .i64 l[k].x) ∧ w'.cell? ⟨b, off + k * 2 + 1, none⟩ = some (.int .i64 l[k].y) ∧ w'.cell? ⟨b', off' + k * 2, none⟩ = some (.int .i64 l[k].x) ∧ w'.cell? ⟨b', off' + k * 2 + 1, none⟩ = some (.int .i64 l[k].y) :=
    fun w' h => ⟨bel_cellM h h2 c0, bel_cellM h h2 c1, bel_cellM h h2' c0', bel_cellM h h2' c1'⟩
   have hlt' : (k : Int) < (n : Int) := by omega
   have g0 : Bel wr wr := Bel.refl _
   clear h3 h3' c0 c0' c1 c1' h2 h2' hP hP'
   go_wp2
   go_region_held3 (fun w' => Bel wr w') (repeat (first | exact g0 | refine Bel.drew ?_ | assumption | refine bel_then (by assumption) ?_))
    (first
     | (go_at_call 110; refine (eqPoint_same l[k].x l[k].y _).mono ?_; rintro e w' ⟨rfl, hbk⟩))
   have hH : Bel wr w' := by assumption
   go_wp2
   go_roundw
   case rel => exact ⟨k + 1, by omega, by go_num, bel_step hbel hH⟩
   case measure => simp [intOf]; omega
  ·have e : k = n := by omega
   subst e
   go_wp2
   go_ret
   exact ⟨rfl, hbel⟩


set_option maxRecDepth 100000 in
set_option maxHeartbeats 1000000 in
theorem markPointS_any (a : Option Addr) (n c : Nat) (l : List PtD) (bs : List Nat) (k : Nat) (w : World) (hT : PtL w a l bs) (hf : ∀ x ∈ bs, ∀ j, w.frozen? ⟨x, j, none⟩ = false) (hn : l.length = n) (hm : n ≤ 1048576) (h0k : 0 < k) (hk : k ≤ 1125899906842624) :
  Calls Tryz.prog 70 #[.slice a n c, .int .i64 k] w fun e w' => e = .returned (.int .i64 ((k + 2 * n : Nat) : Int)) ∧ PtL w' a (mkPoints k l) bs ∧ (∀ x ∈ bs, ∀ j, w'.frozen? ⟨x, j, none⟩ = false) ∧ Onl bs w w' := by
 by_cases h0 : n = 0
 ·subst h0
  obtain rfl : l = [] := List.length_eq_zero_iff.1 hn
  have HT : Hid (PtL w a (mkPoints k []) bs) := hT
  clear hT
  go_enter Tryz.func70, Tryz.ntmps70
  go_wp2
  go_loopw [1, 5] (fun t i wr => t = .int .i64 k ∧ i = .int .i64 0 ∧ wr = w) (fun _ _ _ => 0)
  case atStart => exact ⟨rfl, rfl, rfl⟩
  case round =>
   obtain ⟨rfl, rfl, rfl⟩ := hrel
   go_wp2
   go_ret
   exact ⟨by simp, HT.out, hf, Onl.refl _ _⟩
 ·rcases hT with ⟨rfl, _⟩ | ⟨b, off, f, rfl, hb, rfl, hx⟩
  ·exact absurd hn.symm h0
  ·have hfam : Fam 2 PtE w b off n (fun i => l.getD i ⟨0, 0⟩) f := fun i hi => by
    show PtE w b (off + i * 2) (l.getD i ⟨0, 0⟩) (f i)
    rw [getD_at ⟨0, 0⟩ (show i < l.length by omega)]
    exact hx i (by omega)
   have hbf : ∀ j, w.frozen? ⟨b, j, none⟩ = false := hf b (by simp)
   have Hn : Hid (l.length = n) := hn
   have hfe : ∀ i, i < n → f i = [] := fun i hi => (hfam i hi).1
   clear hn hx hf
   go_enter Tryz.func70, Tryz.ntmps70
   go_wp2
   go_loopw [1, 5] (fun t i wr => ∃ j : Nat, j ≤ n ∧ i = .int .i64 j ∧ t = .int .i64 ((k + 2 * j : Nat) : Int) ∧ Fam 2 PtE wr b off n (upto j (fun i => mkPoint (k + 2 * i)) (fun i => l.getD i ⟨0, 0⟩)) f ∧ (∀ x, wr.frozen? ⟨b, x, none⟩ = false) ∧ Onl [b] w wr) (fun _ i _ => n - (intOf i).toNat)
   case atStart => exact ⟨0, Nat.zero_le _, rfl, by simp, by rw [upto_zero]; exact hfam, hbf, Onl.refl _ _⟩
   case round =>
    obtain ⟨j, hj, rfl, rfl, hF, hfr, hO⟩ := hrel
    have hbr := Nat.lt_of_lt_of_le hb hO.size
    by_cases hlt : j < n
    ·obtain ⟨_, _, _, c0, c1⟩ := hF j hlt
     have f0 := hfr (off + j * 2)
     have f1 := hfr (off + j * 2 + 1)
     have hlt' : (j : Int) < (n : Int) := by omega
     obtain ⟨kk, hkk⟩ : ∃ kk, k + 2 * j = kk := ⟨_, rfl⟩
     have hk1 : 0 < kk := by omega
     have hk2 : kk ≤ 1125902004000000 := by omega
     have HK : Hid (k + 2 * (j + 1) = kk + 2) := (by omega : k + 2 * (j + 1) = kk + 2)
     have HM : Hid (mkPoint (k + 2 * j) = mkPoint kk) := (by rw [hkk] : mkPoint (k + 2 * j) = mkPoint kk)
     rw [hkk]
     have hstep : ∀ w', (∀ o, o < off + j * 2 ∨ off + j * 2 + 2 ≤ o → w'.cell? ⟨b, o, none⟩ = wr.cell? ⟨b, o, none⟩) → PtE w' b (off + j * 2) (mkPoint kk) [] → Fam 2 PtE w' b off n (upto (j + 1) (fun i => mkPoint (k + 2 * i)) (fun i => l.getD i ⟨0, 0⟩)) f := fun w' h1 h2 => by
      have := hF.step ptE (w' := w') (j := j) (mkPoint kk) h1 (fun i hi _ => by rw [hfe i hi]; exact fun x hx => nomatch hx) (by rw [hfe j hlt]; exact h2)
      rw [← HM.out, upto_step j (fun i => mkPoint (k + 2 * i)) (fun i => l.getD i ⟨0, 0⟩)] at this
      exact this
     clear hF hkk
     have hb3 : Bel (wr.setCell ⟨b, off + j * 2, none⟩ (.int .i64 kk)) (wr.setCell ⟨b, off + j * 2, none⟩ (.int .i64 kk)) := Bel.refl _
     have HF1 : Hid (Fam 2 PtE ((wr.setCell ⟨b, off + j * 2, none⟩ (.int .i64 kk)).setCell ⟨b, off + j * 2 + 1, none⟩ (.int .i64 ((kk : Int) + 1))) b off n (upto (j + 1) (fun i => mkPoint (k + 2 * i)) (fun i => l.getD i ⟨0, 0⟩)) f) :=
      hstep _ (fun o ho => pair_out hbr (Bel.refl _) hb3 ho) ⟨rfl, ⟨by show _ ≤ (kk : Int); omega, by show (kk : Int) ≤ _; omega⟩, ⟨by show _ ≤ (kk : Int) + 1; omega, by show (kk : Int) + 1 ≤ _; omega⟩, pair_fst hbr (Bel.refl _) hb3 c0, World.cell?_setCell_same _ _ _ (pair_mid hbr (Bel.refl _) hb3 c1)⟩
     have hO3 := (hO.set (b := b) (by simp) (off + j * 2) (.int .i64 kk)).set (b := b) (by simp) (off + j * 2 + 1) (.int .i64 ((kk : Int) + 1))
     have hfr3 : ∀ x, ((wr.setCell ⟨b, off + j * 2, none⟩ (.int .i64 kk)).setCell ⟨b, off + j * 2 + 1, none⟩ (.int .i64 ((kk : Int) + 1))).frozen? ⟨b, x, none⟩ = false := fun x => by rw [World.frozen?_setCell, World.frozen?_setCell]; exact hfr x
     clear hstep hO hb3
     go_wp2
     go_roundw
     case rel => exact ⟨j + 1, by omega, by go_num, by rw [HK.out]; go_num, HF1.out, hfr3, hO3⟩
     case measure => simp [intOf]; omega
    ·have e : n = j := by omega
     subst e
     have HS : Hid (PtL wr (some ⟨b, off, none⟩) (mkPoints k l) (b :: (List.range l.length).flatMap f)) := by
      rw [Hn.out]
      exact Sl.fam hF (Nat.lt_of_lt_of_le hb hO.size) (by rw [mkPoints_len]; exact Hn.out) (fun i hi => by
       rw [mkPoints_len, Hn.out] at hi
       simp [upto, mkPoints, hi])
     have HO : Hid (Onl (b :: (List.range l.length).flatMap f) w wr) := hO.mono (fun x hx => by simp at hx; simp [hx])
     have HR : Hid (∀ x ∈ b :: (List.range l.length).flatMap f, ∀ j, wr.frozen? ⟨x, j, none⟩ = false) := fun x hx j => by
      rcases List.mem_cons.1 hx with rfl | hx
      ·exact hfr j
      ·obtain ⟨i, hi, hx⟩ := List.mem_flatMap.1 hx
       rw [hfe i (by rw [← Hn.out]; exact List.mem_range.1 hi)] at hx
       exact nomatch hx
     clear hF hO
     go_wp2
     go_ret
     exact ⟨rfl, HS.out, HR.out, HO.out⟩


set_option maxRecDepth 100000 in
set_option maxHeartbeats 1000000 in
theorem heldPtS_any (a : Option Addr) (n c : Nat) (l : List PtD) (bs : List Nat) (k : Nat) (w : World) (hT : PtL w a (mkPoints k l) bs) (hn : l.length = n) (hm : n ≤ 1048576) (hk : k ≤ 1125899906842624) :
  Calls Tryz.prog 71 #[.slice a n c, .int .i64 k] w fun e w' => e = .returned (.int .i64 ((k + 2 * n : Nat) : Int)) ∧ w' = w := by
 by_cases h0 : n = 0
 ·subst h0
  clear hT
  go_enter Tryz.func71, Tryz.ntmps71
  go_wp2
  go_loopw [1, 5] (fun t i wr => t = .int .i64 k ∧ i = .int .i64 0 ∧ wr = w) (fun _ _ _ => 0)
  case atStart => exact ⟨rfl, rfl, rfl⟩
  case round =>
   obtain ⟨rfl, rfl, rfl⟩ := hrel
   go_wp2
   go_ret
   exact ⟨by simp, rfl⟩
 ·rcases hT with ⟨e, _⟩ | ⟨b, off, f, rfl, hb, rfl, hx⟩
  ·have := congrArg List.length e
   rw [mkPoints_len] at this
   exact absurd (hn.symm.trans this) h0
  ·have HC : Hid (∀ i, i < n → w.cell? ⟨b, off + i * 2, none⟩ = some (.int .i64 ((k : Int) + 2 * (i : Int))) ∧ w.cell? ⟨b, off + i * 2 + 1, none⟩ = some (.int .i64 ((k : Int) + 2 * (i : Int) + 1))) := fun i hi => by
    have hi' : i < (mkPoints k l).length := by rw [mkPoints_len]; omega
    have h := (hx i hi').2.2.2
    refine ⟨by rw [h.1]; simp [mkPoints, mkPoint], by rw [h.2]; simp [mkPoints, mkPoint]⟩
   clear hx
   go_enter Tryz.func71, Tryz.ntmps71
   go_wp2
   go_loopw [1, 5] (fun t i wr => ∃ j : Nat, j ≤ n ∧ i = .int .i64 j ∧ t = .int .i64 ((k : Int) + 2 * (j : Int)) ∧ wr = w) (fun _ i _ => n - (intOf i).toNat)
   case atStart => exact ⟨0, Nat.zero_le _, rfl, by simp, rfl⟩
   case round =>
    obtain ⟨j, hj, rfl, rfl, rfl⟩ := hrel
    by_cases hlt : j < n
    ·obtain ⟨cx, cy⟩ := HC.out j hlt
     have hlt' : (j : Int) < (n : Int) := by omega
     go_wp2
     go_roundw
     case rel => exact ⟨j + 1, by omega, by go_num, by go_num, trivial⟩
     case measure => simp [intOf]; omega
    ·have e : n = j := by omega
     subst e
     go_wp2
     go_ret
     exact ⟨ret_num (by omega), rfl⟩

end Go.Proofs.YtldfcnlhjjiihaaGreat
