/-
  Stops' names, calls, walks, trips and timetables, marked: contracts.
-/
import Derived.Test.YtkmccjjghpnejaaMarkN
import Derived.Test.YtkmccjjghpnejaaLinO
namespace Go.Proofs.Ytkmccjjghpnejaa
open Go.RowKit Go.Maps

def mkStrs (k : Nat) (l : List ByteArray) : List ByteArray := (List.range l.length).map fun i => mT (k + i)
theorem mkStrs_len (k : Nat) (l : List ByteArray) : (mkStrs k l).length = l.length := by simp [mkStrs]
def mkCal (k : Nat) : CalD := ⟨(k : Int), ((k + 1 : Nat) : Int), ((k + 2 : Nat) : Int)⟩
def mkCals (k : Nat) (l : List CalD) : List CalD := (List.range l.length).map fun i => mkCal (k + 3 * i)
theorem mkCals_len (k : Nat) (l : List CalD) : (mkCals k l).length = l.length := by simp [mkCals]
def mkWlk (k : Nat) : WlkD := ⟨(k : Int), ((k + 1 : Nat) : Int), ((k + 2 : Nat) : Int)⟩
def mkWlks (k : Nat) (l : List WlkD) : List WlkD := (List.range l.length).map fun i => mkWlk (k + 3 * i)
theorem mkWlks_len (k : Nat) (l : List WlkD) : (mkWlks k l).length = l.length := by simp [mkWlks]
theorem getS_at {l : List ByteArray} (d : ByteArray) {i : Nat} (h : i < l.length) : l.getD i d = l[i] := by simp [List.getD, h]

set_option maxRecDepth 100000 in
set_option maxHeartbeats 1000000 in
theorem markStringS_any (a : Option Addr) (n c : Nat) (l : List ByteArray) (bs : List Nat) (k : Nat) (w : World) (hT : StrL w a l bs) (hf : ∀ x ∈ bs, ∀ j, w.frozen? ⟨x, j, none⟩ = false) (hn : l.length = n) (hm : n ≤ 1048576) (h0k : 0 < k) (hk : k ≤ 1125899906842624) :
  Calls Try.prog 71 #[.slice a n c, .int .i64 k] w fun e w' => e = .returned (.int .i64 ((k + 1 * n : Nat) : Int)) ∧ StrL w' a (mkStrs k l) bs ∧ (∀ x ∈ bs, ∀ j, w'.frozen? ⟨x, j, none⟩ = false) ∧ Onl bs w w' := by
 by_cases h0 : n = 0
 ·subst h0
  obtain rfl : l = [] := List.length_eq_zero_iff.1 hn
  have HT : Hid (StrL w a (mkStrs k []) bs) := hT
  clear hT
  go_enter Try.func71, Try.ntmps71
  go_wp2
  go_loopw [1, 5] (fun t i wr => t = .int .i64 k ∧ i = .int .i64 0 ∧ wr = w) (fun _ _ _ => 0)
  case atStart => exact ⟨rfl, rfl, rfl⟩
  case round =>
   obtain ⟨rfl, rfl, rfl⟩ := hrel
   go_wp2
   go_ret
   exact ⟨by simp, HT.out, hf, Onl.refl _ _⟩
 ·rcases hT with ⟨rfl, _⟩ | ⟨b, off, f, rfl, hb, rfl, hx⟩
  ·exact absurd hn.symm h0
  ·have hfam : Fam 1 StrE w b off n (fun i => l.getD i ⟨#[]⟩) f := fun i hi => by
    show StrE w b (off + i * 1) (l.getD i ⟨#[]⟩) (f i)
    rw [getS_at ⟨#[]⟩ (show i < l.length by omega)]
    exact hx i (by omega)
   have hbf : ∀ j, w.frozen? ⟨b, j, none⟩ = false := hf b (by simp)
   have Hn : Hid (l.length = n) := hn
   have hfe : ∀ i, i < n → f i = [] := fun i hi => (hfam i hi).1
   clear hn hx hf
   go_enter Try.func71, Try.ntmps71
   go_wp2
   go_loopw [1, 5] (fun t i wr => ∃ j : Nat, j ≤ n ∧ i = .int .i64 j ∧ t = .int .i64 ((k + 1 * j : Nat) : Int) ∧ Fam 1 StrE wr b off n (upto j (fun i => mT (k + 1 * i)) (fun i => l.getD i ⟨#[]⟩)) f ∧ (∀ x, wr.frozen? ⟨b, x, none⟩ = false) ∧ Onl [b] w wr) (fun _ i _ => n - (intOf i).toNat)
   case atStart => exact ⟨0, Nat.zero_le _, rfl, by simp, by rw [upto_zero]; exact hfam, hbf, Onl.refl _ _⟩
   case round =>
    obtain ⟨j, hj, rfl, rfl, hF, hfr, hO⟩ := hrel
    have hbr := Nat.lt_of_lt_of_le hb hO.size
    by_cases hlt : j < n
    ·obtain ⟨_, _, c0⟩ := hF j hlt
     have hlt' : (j : Int) < (n : Int) := by omega
     obtain ⟨kk, hkk⟩ : ∃ kk, k + 1 * j = kk := ⟨_, rfl⟩
     have hk1 : 0 < kk := by omega
     have hk2 : kk ≤ 1125902004000000 := by omega
     have HK : Hid (k + 1 * (j + 1) = kk + 1) := (by omega : k + 1 * (j + 1) = kk + 1)
     have HM : Hid (mT (k + 1 * j) = mT kk) := (by rw [hkk] : mT (k + 1 * j) = mT kk)
     rw [hkk]
     have hstep : ∀ w', (∀ o, o < off + j * 1 ∨ off + j * 1 + 1 ≤ o → w'.cell? ⟨b, o, none⟩ = wr.cell? ⟨b, o, none⟩) → StrE w' b (off + j * 1) (mT kk) [] → Fam 1 StrE w' b off n (upto (j + 1) (fun i => mT (k + 1 * i)) (fun i => l.getD i ⟨#[]⟩)) f := fun w' h1 h2 => by
      have := hF.step strE (w' := w') (j := j) (mT kk) h1 (fun i hi _ => by rw [hfe i hi]; exact fun x hx => nomatch hx) (by rw [hfe j hlt]; exact h2)
      rw [← HM.out, upto_step j (fun i => mT (k + 1 * i)) (fun i => l.getD i ⟨#[]⟩)] at this
      exact this
     clear hF hkk
     simp only [Nat.mul_one] at c0 hstep
     have f0 := hfr (off + j)
     go_wp2_with fail
     refine (markText_any kk _ hk1 (by omega)).mono ?_
     rintro e w1 ⟨rfl, hb1⟩
     have g0 := bel_cellM hb1 hbr c0
     have fr1 : ∀ x, w1.frozen? ⟨b, x, none⟩ = false := fun x => by rw [hb1.out.frozen (p := ⟨b, x, none⟩) hbr]; exact hfr x
     have HF1 : Hid (Fam 1 StrE (w1.setCell ⟨b, off + j, none⟩ (.string (mT kk))) b off n (upto (j + 1) (fun i => mT (k + 1 * i)) (fun i => l.getD i ⟨#[]⟩)) f) :=
      hstep _ (fun o ho => by rw [World.cell?_setCell_other _ _ _ _ (fun e => by have := congrArg Addr.off e; simp at this; omega)]; exact hb1.out.cell (p := ⟨b, o, none⟩) hbr)
       ⟨rfl, by have := mT_size kk; unfold maxLen; omega, World.cell?_setCell_same _ _ _ g0⟩
     have hO1 := (hO.bel hb1).set (b := b) (by simp) (off + j) (.string (mT kk))
     have hfr1 : ∀ x, (w1.setCell ⟨b, off + j, none⟩ (.string (mT kk))).frozen? ⟨b, x, none⟩ = false := fun x => by rw [World.frozen?_setCell]; exact fr1 x
     clear hstep hO hb1 c0
     go_wp2
     go_roundw
     case rel => exact ⟨j + 1, by omega, by go_num, by rw [HK.out]; go_num, HF1.out, hfr1, hO1⟩
     case measure => simp [intOf]; omega
    ·have e : n = j := by omega
     subst e
     have HS : Hid (StrL wr (some ⟨b, off, none⟩) (mkStrs k l) (b :: (List.range l.length).flatMap f)) := by
      rw [Hn.out]
      exact Sl.fam hF (Nat.lt_of_lt_of_le hb hO.size) (by rw [mkStrs_len]; exact Hn.out) (fun i hi => by
       rw [mkStrs_len, Hn.out] at hi
       simp [upto, mkStrs, hi])
     have HO : Hid (Onl (b :: (List.range l.length).flatMap f) w wr) := hO.mono (fun x hx => by simp at hx; simp [hx])
     have HR : Hid (∀ x ∈ b :: (List.range l.length).flatMap f, ∀ j, wr.frozen? ⟨x, j, none⟩ = false) := fun x hx j => by
      rcases List.mem_cons.1 hx with rfl | hx
      ·exact hfr j
      ·obtain ⟨i, hi, hx⟩ := List.mem_flatMap.1 hx
       rw [hfe i (by rw [← Hn.out]; exact List.mem_range.1 hi)] at hx
       exact nomatch hx
     clear hF hO
     go_wp2
     go_ret
     exact ⟨rfl, HS.out, HR.out, HO.out⟩

set_option maxRecDepth 100000 in
set_option maxHeartbeats 1000000 in
theorem markCallS_any (a : Option Addr) (n c : Nat) (l : List CalD) (bs : List Nat) (k : Nat) (w : World) (hT : CalL w a l bs) (hf : ∀ x ∈ bs, ∀ j, w.frozen? ⟨x, j, none⟩ = false) (hn : l.length = n) (hm : n ≤ 1048576) (h0k : 0 < k) (hk : k ≤ 1125899906842624) :
  Calls Try.prog 101 #[.slice a n c, .int .i64 k] w fun e w' => e = .returned (.int .i64 ((k + 3 * n : Nat) : Int)) ∧ CalL w' a (mkCals k l) bs ∧ (∀ x ∈ bs, ∀ j, w'.frozen? ⟨x, j, none⟩ = false) ∧ Onl bs w w' := by
 by_cases h0 : n = 0
 ·subst h0
  obtain rfl : l = [] := List.length_eq_zero_iff.1 hn
  have HT : Hid (CalL w a (mkCals k []) bs) := hT
  clear hT
  go_enter Try.func101, Try.ntmps101
  go_wp2
  go_loopw [1, 5] (fun t i wr => t = .int .i64 k ∧ i = .int .i64 0 ∧ wr = w) (fun _ _ _ => 0)
  case atStart => exact ⟨rfl, rfl, rfl⟩
  case round =>
   obtain ⟨rfl, rfl, rfl⟩ := hrel
   go_wp2
   go_ret
   exact ⟨by simp, HT.out, hf, Onl.refl _ _⟩
 ·rcases hT with ⟨rfl, _⟩ | ⟨b, off, f, rfl, hb, rfl, hx⟩
  ·exact absurd hn.symm h0
  ·have hfam : Fam 3 CalE w b off n (fun i => l.getD i ⟨0, 0, 0⟩) f := fun i hi => by
    show CalE w b (off + i * 3) (l.getD i ⟨0, 0, 0⟩) (f i)
    rw [getD_at ⟨0, 0, 0⟩ (show i < l.length by omega)]
    exact hx i (by omega)
   have hbf : ∀ j, w.frozen? ⟨b, j, none⟩ = false := hf b (by simp)
   have Hn : Hid (l.length = n) := hn
   have hfe : ∀ i, i < n → f i = [] := fun i hi => (hfam i hi).1
   clear hn hx hf
   go_enter Try.func101, Try.ntmps101
   go_wp2
   go_loopw [1, 5] (fun t i wr => ∃ j : Nat, j ≤ n ∧ i = .int .i64 j ∧ t = .int .i64 ((k + 3 * j : Nat) : Int) ∧ Fam 3 CalE wr b off n (upto j (fun i => mkCal (k + 3 * i)) (fun i => l.getD i ⟨0, 0, 0⟩)) f ∧ (∀ x, wr.frozen? ⟨b, x, none⟩ = false) ∧ Onl [b] w wr) (fun _ i _ => n - (intOf i).toNat)
   case atStart => exact ⟨0, Nat.zero_le _, rfl, by simp, by rw [upto_zero]; exact hfam, hbf, Onl.refl _ _⟩
   case round =>
    obtain ⟨j, hj, rfl, rfl, hF, hfr, hO⟩ := hrel
    have hbr := Nat.lt_of_lt_of_le hb hO.size
    by_cases hlt : j < n
    ·obtain ⟨_, _, _, _, c0, c1, c2⟩ := hF j hlt
     have hlt' : (j : Int) < (n : Int) := by omega
     obtain ⟨kk, hkk⟩ : ∃ kk, k + 3 * j = kk := ⟨_, rfl⟩
     have hk1 : 0 < kk := by omega
     have hk2 : kk ≤ 1125902004000000 := by omega
     have HK : Hid (k + 3 * (j + 1) = kk + 3) := (by omega : k + 3 * (j + 1) = kk + 3)
     have HM : Hid (mkCal (k + 3 * j) = mkCal kk) := (by rw [hkk] : mkCal (k + 3 * j) = mkCal kk)
     rw [hkk]
     have hstep : ∀ w', (∀ o, o < off + j * 3 ∨ off + j * 3 + 3 ≤ o → w'.cell? ⟨b, o, none⟩ = wr.cell? ⟨b, o, none⟩) → CalE w' b (off + j * 3) (mkCal kk) [] → Fam 3 CalE w' b off n (upto (j + 1) (fun i => mkCal (k + 3 * i)) (fun i => l.getD i ⟨0, 0, 0⟩)) f := fun w' h1 h2 => by
      have := hF.step calE (w' := w') (j := j) (mkCal kk) h1 (fun i hi _ => by rw [hfe i hi]; exact fun x hx => nomatch hx) (by rw [hfe j hlt]; exact h2)
      rw [← HM.out, upto_step j (fun i => mkCal (k + 3 * i)) (fun i => l.getD i ⟨0, 0, 0⟩)] at this
      exact this
     clear hF hkk
     have f0 := hfr (off + j * 3)
     have f1 := hfr (off + j * 3 + 1)
     have f2 := hfr (off + j * 3 + 2)
     obtain ⟨S3, HS3⟩ : ∃ S3, Hid (S3 = setRow wr b (off + j * 3) [.int .i64 (kk : Int), .int .i64 ((kk : Int) + 1), .int .i64 ((kk : Int) + 1 + 1)]) := ⟨_, (rfl : setRow wr b (off + j * 3) [.int .i64 (kk : Int), .int .i64 ((kk : Int) + 1), .int .i64 ((kk : Int) + 1 + 1)] = _)⟩
     have hin := setRow_in b [.int .i64 (kk : Int), .int .i64 ((kk : Int) + 1), .int .i64 ((kk : Int) + 1 + 1)] wr (off + j * 3) (fun i hi => by
      match i, hi with
      | 0, _ => exact ⟨_, c0⟩
      | 1, _ => exact ⟨_, c1⟩
      | 2, _ => exact ⟨_, c2⟩)
     have HF1 : Hid (Fam 3 CalE S3 b off n (upto (j + 1) (fun i => mkCal (k + 3 * i)) (fun i => l.getD i ⟨0, 0, 0⟩)) f) :=
      hstep _ (fun o ho => by rw [HS3.out, setRow_out _ _ _ _ _ (by simp; omega)])
       ⟨rfl, ⟨by show _ ≤ (kk : Int); omega, by show (kk : Int) ≤ _; omega⟩, ⟨by show _ ≤ ((kk + 1 : Nat) : Int); omega, by show ((kk + 1 : Nat) : Int) ≤ _; omega⟩, ⟨by show _ ≤ ((kk + 2 : Nat) : Int); omega, by show ((kk + 2 : Nat) : Int) ≤ _; omega⟩,
        by rw [HS3.out]; exact hin 0 (by simp), by rw [HS3.out]; exact hin 1 (by simp), by rw [HS3.out]; exact (hin 2 (by simp)).trans (congrArg (fun z => some (Value.int .i64 z)) (by omega : (kk : Int) + 1 + 1 = ((kk + 2 : Nat) : Int)))⟩
     have hO3 : Onl [b] w S3 := by rw [HS3.out]; exact ((hO.set (b := b) (by simp) _ _).set (b := b) (by simp) _ _).set (b := b) (by simp) _ _
     have hfr3 : ∀ x, S3.frozen? ⟨b, x, none⟩ = false := fun x => by rw [HS3.out, setRow_frozen]; exact hfr x
     have HEQ : Hid (S3 = ((wr.setCell ⟨b, off + j * 3, none⟩ (.int .i64 (kk : Int))).setCell ⟨b, off + j * 3 + 1, none⟩ (.int .i64 ((kk : Int) + 1))).setCell ⟨b, off + j * 3 + 2, none⟩ (.int .i64 ((kk : Int) + 1 + 1))) := HS3.out
     clear hstep hO hin HS3
     go_wp2
     rw [← HEQ.out]
     go_roundw
     case rel => exact ⟨j + 1, by omega, by go_num, by rw [HK.out]; go_num, HF1.out, hfr3, hO3⟩
     case measure => simp [intOf]; omega
    ·have e : n = j := by omega
     subst e
     have HS : Hid (CalL wr (some ⟨b, off, none⟩) (mkCals k l) (b :: (List.range l.length).flatMap f)) := by
      rw [Hn.out]
      exact Sl.fam hF (Nat.lt_of_lt_of_le hb hO.size) (by rw [mkCals_len]; exact Hn.out) (fun i hi => by
       rw [mkCals_len, Hn.out] at hi
       simp [upto, mkCals, hi])
     have HO : Hid (Onl (b :: (List.range l.length).flatMap f) w wr) := hO.mono (fun x hx => by simp at hx; simp [hx])
     have HR : Hid (∀ x ∈ b :: (List.range l.length).flatMap f, ∀ j, wr.frozen? ⟨x, j, none⟩ = false) := fun x hx j => by
      rcases List.mem_cons.1 hx with rfl | hx
      ·exact hfr j
      ·obtain ⟨i, hi, hx⟩ := List.mem_flatMap.1 hx
       rw [hfe i (by rw [← Hn.out]; exact List.mem_range.1 hi)] at hx
       exact nomatch hx
     clear hF hO
     go_wp2
     go_ret
     exact ⟨rfl, HS.out, HR.out, HO.out⟩

set_option maxRecDepth 100000 in
set_option maxHeartbeats 1000000 in
theorem markWalkS_any (a : Option Addr) (n c : Nat) (l : List WlkD) (bs : List Nat) (k : Nat) (w : World) (hT : WlkL w a l bs) (hf : ∀ x ∈ bs, ∀ j, w.frozen? ⟨x, j, none⟩ = false) (hn : l.length = n) (hm : n ≤ 1048576) (h0k : 0 < k) (hk : k ≤ 1125899906842624) :
  Calls Try.prog 73 #[.slice a n c, .int .i64 k] w fun e w' => e = .returned (.int .i64 ((k + 3 * n : Nat) : Int)) ∧ WlkL w' a (mkWlks k l) bs ∧ (∀ x ∈ bs, ∀ j, w'.frozen? ⟨x, j, none⟩ = false) ∧ Onl bs w w' := by
 by_cases h0 : n = 0
 ·subst h0
  obtain rfl : l = [] := List.length_eq_zero_iff.1 hn
  have HT : Hid (WlkL w a (mkWlks k []) bs) := hT
  clear hT
  go_enter Try.func73, Try.ntmps73
  go_wp2
  go_loopw [1, 5] (fun t i wr => t = .int .i64 k ∧ i = .int .i64 0 ∧ wr = w) (fun _ _ _ => 0)
  case atStart => exact ⟨rfl, rfl, rfl⟩
  case round =>
   obtain ⟨rfl, rfl, rfl⟩ := hrel
   go_wp2
   go_ret
   exact ⟨by simp, HT.out, hf, Onl.refl _ _⟩
 ·rcases hT with ⟨rfl, _⟩ | ⟨b, off, f, rfl, hb, rfl, hx⟩
  ·exact absurd hn.symm h0
  ·have hfam : Fam 3 WlkE w b off n (fun i => l.getD i ⟨0, 0, 0⟩) f := fun i hi => by
    show WlkE w b (off + i * 3) (l.getD i ⟨0, 0, 0⟩) (f i)
    rw [getD_at ⟨0, 0, 0⟩ (show i < l.length by omega)]
    exact hx i (by omega)
   have hbf : ∀ j, w.frozen? ⟨b, j, none⟩ = false := hf b (by simp)
   have Hn : Hid (l.length = n) := hn
   have hfe : ∀ i, i < n → f i = [] := fun i hi => (hfam i hi).1
   clear hn hx hf
   go_enter Try.func73, Try.ntmps73
   go_wp2
   go_loopw [1, 5] (fun t i wr => ∃ j : Nat, j ≤ n ∧ i = .int .i64 j ∧ t = .int .i64 ((k + 3 * j : Nat) : Int) ∧ Fam 3 WlkE wr b off n (upto j (fun i => mkWlk (k + 3 * i)) (fun i => l.getD i ⟨0, 0, 0⟩)) f ∧ (∀ x, wr.frozen? ⟨b, x, none⟩ = false) ∧ Onl [b] w wr) (fun _ i _ => n - (intOf i).toNat)
   case atStart => exact ⟨0, Nat.zero_le _, rfl, by simp, by rw [upto_zero]; exact hfam, hbf, Onl.refl _ _⟩
   case round =>
    obtain ⟨j, hj, rfl, rfl, hF, hfr, hO⟩ := hrel
    have hbr := Nat.lt_of_lt_of_le hb hO.size
    by_cases hlt : j < n
    ·obtain ⟨_, _, _, _, c0, c1, c2⟩ := hF j hlt
     have hlt' : (j : Int) < (n : Int) := by omega
     obtain ⟨kk, hkk⟩ : ∃ kk, k + 3 * j = kk := ⟨_, rfl⟩
     have hk1 : 0 < kk := by omega
     have hk2 : kk ≤ 1125902004000000 := by omega
     have HK : Hid (k + 3 * (j + 1) = kk + 3) := (by omega : k + 3 * (j + 1) = kk + 3)
     have HM : Hid (mkWlk (k + 3 * j) = mkWlk kk) := (by rw [hkk] : mkWlk (k + 3 * j) = mkWlk kk)
     rw [hkk]
     have hstep : ∀ w', (∀ o, o < off + j * 3 ∨ off + j * 3 + 3 ≤ o → w'.cell? ⟨b, o, none⟩ = wr.cell? ⟨b, o, none⟩) → WlkE w' b (off + j * 3) (mkWlk kk) [] → Fam 3 WlkE w' b off n (upto (j + 1) (fun i => mkWlk (k + 3 * i)) (fun i => l.getD i ⟨0, 0, 0⟩)) f := fun w' h1 h2 => by
      have := hF.step wlkE (w' := w') (j := j) (mkWlk kk) h1 (fun i hi _ => by rw [hfe i hi]; exact fun x hx => nomatch hx) (by rw [hfe j hlt]; exact h2)
      rw [← HM.out, upto_step j (fun i => mkWlk (k + 3 * i)) (fun i => l.getD i ⟨0, 0, 0⟩)] at this
      exact this
     clear hF hkk
     have f0 := hfr (off + j * 3)
     have f1 := hfr (off + j * 3 + 1)
     have f2 := hfr (off + j * 3 + 2)
     obtain ⟨S3, HS3⟩ : ∃ S3, Hid (S3 = setRow wr b (off + j * 3) [.int .i64 (kk : Int), .int .i64 ((kk : Int) + 1), .int .i64 ((kk : Int) + 1 + 1)]) := ⟨_, (rfl : setRow wr b (off + j * 3) [.int .i64 (kk : Int), .int .i64 ((kk : Int) + 1), .int .i64 ((kk : Int) + 1 + 1)] = _)⟩
     have hin := setRow_in b [.int .i64 (kk : Int), .int .i64 ((kk : Int) + 1), .int .i64 ((kk : Int) + 1 + 1)] wr (off + j * 3) (fun i hi => by
      match i, hi with
      | 0, _ => exact ⟨_, c0⟩
      | 1, _ => exact ⟨_, c1⟩
      | 2, _ => exact ⟨_, c2⟩)
     have HF1 : Hid (Fam 3 WlkE S3 b off n (upto (j + 1) (fun i => mkWlk (k + 3 * i)) (fun i => l.getD i ⟨0, 0, 0⟩)) f) :=
      hstep _ (fun o ho => by rw [HS3.out, setRow_out _ _ _ _ _ (by simp; omega)])
       ⟨rfl, ⟨by show _ ≤ (kk : Int); omega, by show (kk : Int) ≤ _; omega⟩, ⟨by show _ ≤ ((kk + 1 : Nat) : Int); omega, by show ((kk + 1 : Nat) : Int) ≤ _; omega⟩, ⟨by show _ ≤ ((kk + 2 : Nat) : Int); omega, by show ((kk + 2 : Nat) : Int) ≤ _; omega⟩,
        by rw [HS3.out]; exact hin 0 (by simp), by rw [HS3.out]; exact hin 1 (by simp), by rw [HS3.out]; exact (hin 2 (by simp)).trans (congrArg (fun z => some (Value.int .i64 z)) (by omega : (kk : Int) + 1 + 1 = ((kk + 2 : Nat) : Int)))⟩
     have hO3 : Onl [b] w S3 := by rw [HS3.out]; exact ((hO.set (b := b) (by simp) _ _).set (b := b) (by simp) _ _).set (b := b) (by simp) _ _
     have hfr3 : ∀ x, S3.frozen? ⟨b, x, none⟩ = false := fun x => by rw [HS3.out, setRow_frozen]; exact hfr x
     have HEQ : Hid (S3 = ((wr.setCell ⟨b, off + j * 3, none⟩ (.int .i64 (kk : Int))).setCell ⟨b, off + j * 3 + 1, none⟩ (.int .i64 ((kk : Int) + 1))).setCell ⟨b, off + j * 3 + 2, none⟩ (.int .i64 ((kk : Int) + 1 + 1))) := HS3.out
     clear hstep hO hin HS3
     go_wp2
     rw [← HEQ.out]
     go_roundw
     case rel => exact ⟨j + 1, by omega, by go_num, by rw [HK.out]; go_num, HF1.out, hfr3, hO3⟩
     case measure => simp [intOf]; omega
    ·have e : n = j := by omega
     subst e
     have HS : Hid (WlkL wr (some ⟨b, off, none⟩) (mkWlks k l) (b :: (List.range l.length).flatMap f)) := by
      rw [Hn.out]
      exact Sl.fam hF (Nat.lt_of_lt_of_le hb hO.size) (by rw [mkWlks_len]; exact Hn.out) (fun i hi => by
       rw [mkWlks_len, Hn.out] at hi
       simp [upto, mkWlks, hi])
     have HO : Hid (Onl (b :: (List.range l.length).flatMap f) w wr) := hO.mono (fun x hx => by simp at hx; simp [hx])
     have HR : Hid (∀ x ∈ b :: (List.range l.length).flatMap f, ∀ j, wr.frozen? ⟨x, j, none⟩ = false) := fun x hx j => by
      rcases List.mem_cons.1 hx with rfl | hx
      ·exact hfr j
      ·obtain ⟨i, hi, hx⟩ := List.mem_flatMap.1 hx
       rw [hfe i (by rw [← Hn.out]; exact List.mem_range.1 hi)] at hx
       exact nomatch hx
     clear hF hO
     go_wp2
     go_ret
     exact ⟨rfl, HS.out, HR.out, HO.out⟩

def mkTrp (k : Nat) (d : TrpD) : TrpD := ⟨mT k, ((k + 1 : Nat) : Int), mkCals (k + 2) d.calls⟩
/-- With which number the marks of trip i begin. -/
def stTrp (k : Nat) (l : List TrpD) : Nat → Nat
 | 0 => k
 | i + 1 => stTrp k l i + (2 + 3 * (l.getD i ⟨⟨#[]⟩, 0, []⟩).calls.length)
def mkTrps (k : Nat) (l : List TrpD) : List TrpD := (List.range l.length).map fun i => mkTrp (stTrp k l i) (l.getD i ⟨⟨#[]⟩, 0, []⟩)
theorem mkTrps_len (k : Nat) (l : List TrpD) : (mkTrps k l).length = l.length := by simp [mkTrps]
theorem stTrp_bd {k : Nat} {l : List TrpD} (hs : ∀ i (h : i < l.length), l[i].calls.length ≤ 1048576) : ∀ j, j ≤ l.length → k ≤ stTrp k l j ∧ stTrp k l j ≤ k + j * 3145730
 | 0, _ => by simp [stTrp]
 | j + 1, hj => by
  have h1 := stTrp_bd (k := k) hs j (by omega)
  have h2 := hs j (by omega)
  simp only [stTrp, getD_at ⟨⟨#[]⟩, 0, []⟩ (show j < l.length by omega)]
  omega

set_option maxRecDepth 100000 in
set_option maxHeartbeats 2000000 in
theorem markTripS_any (a : Option Addr) (n c : Nat) (l : List TrpD) (bs : List Nat) (k : Nat) (w : World) (hT : TrpL w a l bs) (hf : ∀ x ∈ bs, ∀ j, w.frozen? ⟨x, j, none⟩ = false) (hd : bs.Nodup) (hn : l.length = n) (hm : n ≤ 1048576) (hs : ∀ i (h : i < l.length), l[i].calls.length ≤ 1048576) (h0k : 0 < k) (hk : k ≤ 70368744177664) :
  Calls Try.prog 72 #[.slice a n c, .int .i64 k] w fun e w' => e = .returned (.int .i64 (stTrp k l n : Nat)) ∧ TrpL w' a (mkTrps k l) bs ∧ (∀ x ∈ bs, ∀ j, w'.frozen? ⟨x, j, none⟩ = false) ∧ Onl bs w w' := by
 by_cases h0 : n = 0
 ·subst h0
  obtain rfl : l = [] := List.length_eq_zero_iff.1 hn
  have HT : Hid (TrpL w a (mkTrps k []) bs) := hT
  clear hT
  go_enter Try.func72, Try.ntmps72
  go_wp2
  go_loopw [1, 5] (fun t i wr => t = .int .i64 k ∧ i = .int .i64 0 ∧ wr = w) (fun _ _ _ => 0)
  case atStart => exact ⟨rfl, rfl, rfl⟩
  case round =>
   obtain ⟨rfl, rfl, rfl⟩ := hrel
   go_wp2
   go_ret
   exact ⟨rfl, HT.out, hf, Onl.refl _ _⟩
 ·rcases hT with ⟨rfl, _⟩ | ⟨b, off, f, rfl, hb, rfl, hx⟩
  ·exact absurd hn.symm h0
  ·have hfam : Fam 3 TrpE w b off n (fun i => l.getD i ⟨⟨#[]⟩, 0, []⟩) f := fun i hi => by
    show TrpE w b (off + i * 3) (l.getD i ⟨⟨#[]⟩, 0, []⟩) (f i)
    rw [getD_at ⟨⟨#[]⟩, 0, []⟩ (show i < l.length by omega)]
    exact hx i (by omega)
   rw [hn] at hd hf ⊢
   obtain ⟨hdb, hdf⟩ := List.nodup_cons.1 hd
   have Hn : Hid (l.length = n) := hn
   have HS : Hid (∀ i (h : i < l.length), l[i].calls.length ≤ 1048576) := hs
   have HB : Hid (∀ j, j ≤ l.length → k ≤ stTrp k l j ∧ stTrp k l j ≤ k + j * 3145730) := stTrp_bd hs
   have HDF : Hid ((List.range n).flatMap f).Nodup := hdf
   have HDB : Hid (∀ i, i < n → b ∉ f i) := fun i hi h => hdb (List.mem_flatMap.2 ⟨i, List.mem_range.2 hi, h⟩)
   clear hn hx hd hdb hdf hs
   go_enter Try.func72, Try.ntmps72
   go_wp2
   go_loopw [1, 5] (fun t i wr => ∃ j : Nat, j ≤ n ∧ i = .int .i64 j ∧ t = .int .i64 (stTrp k l j : Nat) ∧ Fam 3 TrpE wr b off n (upto j (fun i => mkTrp (stTrp k l i) (l.getD i ⟨⟨#[]⟩, 0, []⟩)) (fun i => l.getD i ⟨⟨#[]⟩, 0, []⟩)) f ∧ Hid (∀ x ∈ b :: (List.range n).flatMap f, ∀ o, wr.frozen? ⟨x, o, none⟩ = false) ∧ Onl (b :: (List.range n).flatMap f) w wr) (fun _ i _ => n - (intOf i).toNat)
   case atStart => exact ⟨0, Nat.zero_le _, rfl, rfl, by rw [upto_zero]; exact hfam, hf, Onl.refl _ _⟩
   case round =>
    obtain ⟨j, hj, rfl, rfl, hF, HFR, hO⟩ := hrel
    have hbr := Nat.lt_of_lt_of_le hb hO.size
    by_cases hlt : j < n
    ·have hjl : j < l.length := by rw [Hn.out]; exact hlt
     have hj0 := hF j hlt
     have eD : upto j (fun i => mkTrp (stTrp k l i) (l.getD i ⟨⟨#[]⟩, 0, []⟩)) (fun i => l.getD i ⟨⟨#[]⟩, 0, []⟩) j = l.getD j ⟨⟨#[]⟩, 0, []⟩ := by simp [upto]
     rw [eD] at hj0
     obtain ⟨dd, Hdd⟩ : ∃ dd, Hid (dd = l.getD j ⟨⟨#[]⟩, 0, []⟩) := ⟨_, (rfl : l.getD j ⟨⟨#[]⟩, 0, []⟩ = _)⟩
     rw [← Hdd.out] at hj0
     obtain ⟨_, _, c0, c1, ta, tc, ml2, c2, t2⟩ := hj0
     have htl : dd.calls.length ≤ 1048576 := by rw [Hdd.out, getD_at _ hjl]; exact HS.out j hjl
     obtain ⟨kk, HK⟩ : ∃ kk, Hid (stTrp k l j = kk) := ⟨_, (rfl : stTrp k l j = _)⟩
     have hkk := HB.out j (by rw [Hn.out]; exact hj)
     rw [HK.out] at hkk ⊢
     have HNX : Hid (stTrp k l (j + 1) = kk + 2 + 3 * dd.calls.length) := by
      show stTrp k l j + (2 + 3 * (l.getD j ⟨⟨#[]⟩, 0, []⟩).calls.length) = _
      rw [HK.out, Hdd.out]; omega
     have hlt' : (j : Int) < (n : Int) := by omega
     have hk1 : 0 < kk := by omega
     have hk2 : kk ≤ 80000000000000 := by omega
     have f0 := HFR.out b (by simp) (off + j * 3)
     have hFl0 : ∀ i, i < n → ∀ x ∈ f i, x < wr.heap.size := fun i hi => trpE.lt (hF i hi)
     go_wp2_with fail
     refine (markText_any kk _ hk1 (by omega)).mono ?_
     rintro e w1 ⟨rfl, hb1⟩
     have hbr1 := bel_lt hb1 hbr
     have d0 := bel_cellM hb1 hbr c0
     have d1 := bel_cellM hb1 hbr c1
     have d2 := bel_cellM hb1 hbr c2
     have HFR1 : Hid (∀ x ∈ b :: (List.range n).flatMap f, ∀ o, w1.frozen? ⟨x, o, none⟩ = false) := fun x hx o => by
      have hxs : x < wr.heap.size := by
       rcases List.mem_cons.1 hx with rfl | hx
       ·exact hbr
       ·obtain ⟨i, hi, hx⟩ := List.mem_flatMap.1 hx
        exact hFl0 i (List.mem_range.1 hi) x hx
      rw [hb1.out.frozen (p := ⟨x, o, none⟩) hxs]
      exact HFR.out x hx o
     have HFam1 : Hid (Fam 3 TrpE w1 b off n (upto j (fun i => mkTrp (stTrp k l i) (l.getD i ⟨⟨#[]⟩, 0, []⟩)) (fun i => l.getD i ⟨⟨#[]⟩, 0, []⟩)) f) := fun i hi => trpE.alike (hF i hi) (fun x _ => hb1.out.cell (p := ⟨b, _, none⟩) hbr) (Alike.bel hb1 (hFl0 i hi))
     have t21 := t2.bel calE hb1
     have hO1 := hO.bel hb1
     have hFl : ∀ i, i < n → ∀ x ∈ f i, x < w1.heap.size := fun i hi x hx => bel_lt hb1 (hFl0 i hi x hx)
     clear hF HFR hO c0 c1 c2 t2 hb1 hFl0 f0
     have f0 := HFR1.out b (by simp) (off + j * 3)
     have f1 := HFR1.out b (by simp) (off + j * 3 + 1)
     obtain ⟨S3, HS3⟩ : ∃ S3, Hid (S3 = setRow w1 b (off + j * 3) [.string (mT kk), .int .i64 ((kk : Int) + 1)]) := ⟨_, (rfl : setRow w1 b (off + j * 3) [.string (mT kk), .int .i64 ((kk : Int) + 1)] = _)⟩
     have hdr : S3.cell? ⟨b, off + j * 3 + 2, none⟩ = some (.slice ta dd.calls.length tc) := by rw [HS3.out, setRow_out _ _ _ _ _ (by simp)]; exact d2
     have hSz : S3.heap.size = w1.heap.size := by rw [HS3.out, setRow_size]
     have hSf : ∀ x o, S3.frozen? ⟨x, o, none⟩ = w1.frozen? ⟨x, o, none⟩ := fun x o => by rw [HS3.out, setRow_frozen]
     have hSo : ∀ o, o < off + j * 3 ∨ off + j * 3 + 3 ≤ o → S3.cell? ⟨b, o, none⟩ = w1.cell? ⟨b, o, none⟩ := fun o ho => by rw [HS3.out, setRow_out _ _ _ _ _ (by simp; omega)]
     have hin := setRow_in b [.string (mT kk), .int .i64 ((kk : Int) + 1)] w1 (off + j * 3) (fun i hi => by
      match i, hi with
      | 0, _ => exact ⟨_, d0⟩
      | 1, _ => exact ⟨_, d1⟩)
     have i0 : S3.cell? ⟨b, off + j * 3, none⟩ = some (.string (mT kk)) := by rw [HS3.out]; exact hin 0 (by simp)
     have i1 : S3.cell? ⟨b, off + j * 3 + 1, none⟩ = some (.int .i64 ((kk : Int) + 1)) := by rw [HS3.out]; exact hin 1 (by simp)
     have hSO : Onl (b :: (List.range n).flatMap f) w1 S3 := by rw [HS3.out]; exact (((Onl.refl _ _).set (b := b) (by simp) _ _).set (b := b) (by simp) _ _)
     have hSa : ∀ cs : List Nat, (∀ x ∈ cs, x < w1.heap.size) → b ∉ cs → Alike w1 S3 cs := fun cs h1 h2 => by rw [HS3.out]; exact setRow_alike _ h1 h2
     have T3 := t21.alike calE (hSa _ (t21.lt calE) (HDB.out j hlt))
     have F3 : ∀ x ∈ f j, ∀ o, S3.frozen? ⟨x, o, none⟩ = false := fun x hx o => by rw [hSf]; exact HFR1.out x (List.mem_cons_of_mem _ (List.mem_flatMap.2 ⟨j, List.mem_range.2 hlt, hx⟩)) o
     have HKN : Hid ((kk : Int) + 1 + 1 = ((kk + 2 : Nat) : Int)) := (by omega : (kk : Int) + 1 + 1 = ((kk + 2 : Nat) : Int))
     have HEQ : Hid (S3 = (w1.setCell ⟨b, off + j * 3, none⟩ (.string (mT kk))).setCell ⟨b, off + j * 3 + 1, none⟩ (.int .i64 ((kk : Int) + 1))) := HS3.out
     have hload : ((w1.setCell ⟨b, off + j * 3, none⟩ (.string (mT kk))).setCell ⟨b, off + j * 3 + 1, none⟩ (.int .i64 ((kk : Int) + 1))).cell? ⟨b, off + j * 3 + 2, none⟩ = some (.slice ta dd.calls.length tc) := by rw [← HEQ.out]; exact hdr
     clear t21 HS3
     go_wp2_with fail
     rw [HKN.out, ← HEQ.out]
     refine (markCallS_any ta _ tc dd.calls (f j) (kk + 2) _ T3 F3 rfl htl (by omega) (by omega)).mono ?_
     rintro e w4 ⟨rfl, T4, F4, O4⟩
     have hbS : b < S3.heap.size := by rw [hSz]; exact hbr1
     have hc4 : ∀ o, w4.cell? ⟨b, o, none⟩ = S3.cell? ⟨b, o, none⟩ := fun o => O4.cell hbS (HDB.out j hlt)
     have HF4 : Hid (Fam 3 TrpE w4 b off n (upto (j + 1) (fun i => mkTrp (stTrp k l i) (l.getD i ⟨⟨#[]⟩, 0, []⟩)) (fun i => l.getD i ⟨⟨#[]⟩, 0, []⟩)) f) := by
      have := Fam.step trpE HFam1.out (w' := w4) (j := j) (mkTrp kk dd) (fun o ho => by rw [hc4]; exact hSo o ho)
       (fun i hi hne => (hSa _ (hFl i hi) (HDB.out i hi)).trans (O4.alike (fun x hx => by rw [hSz]; exact hFl i hi x hx) (nd_ne HDF.out hi hlt hne)))
       ⟨by have := mT_size kk; unfold maxLen; show (mT kk).size ≤ _; omega, ⟨by show _ ≤ ((kk + 1 : Nat) : Int); omega, by show ((kk + 1 : Nat) : Int) ≤ _; omega⟩,
        by rw [hc4]; exact i0, by rw [hc4]; exact i1, ta, tc, by show (mkCals (kk + 2) dd.calls).length ≤ _; rw [mkCals_len]; exact ml2, by
         show _ = some (Value.slice ta (mkCals (kk + 2) dd.calls).length tc)
         rw [hc4, mkCals_len]
         exact hdr, T4⟩
      rw [show mkTrp kk dd = (fun i => mkTrp (stTrp k l i) (l.getD i ⟨⟨#[]⟩, 0, []⟩)) j by rw [Hdd.out, ← HK.out], upto_step j (fun i => mkTrp (stTrp k l i) (l.getD i ⟨⟨#[]⟩, 0, []⟩)) (fun i => l.getD i ⟨⟨#[]⟩, 0, []⟩)] at this
      exact this
     have hO4 : Onl (b :: (List.range n).flatMap f) w w4 := (hO1.trans hSO).trans (O4.mono (fun x hx => List.mem_cons_of_mem _ (List.mem_flatMap.2 ⟨j, List.mem_range.2 hlt, hx⟩)))
     have HR4 : Hid (∀ x ∈ b :: (List.range n).flatMap f, ∀ o, w4.frozen? ⟨x, o, none⟩ = false) := fun x hx o => by
      by_cases hxj : x ∈ f j
      ·exact F4 x hxj o
      ·have hxs : x < S3.heap.size := by
        rw [hSz]
        rcases List.mem_cons.1 hx with rfl | hx
        ·exact hbr1
        ·obtain ⟨i, hi, hx⟩ := List.mem_flatMap.1 hx
         exact hFl i (List.mem_range.1 hi) x hx
       rw [O4.frozen hxs hxj, hSf]
       exact HFR1.out x hx o
     clear hO1 hSO O4 F4 T4 T3 F3 hc4 hSa hSo hSf hin i0 i1 hdr hload HFam1 hFl f0 f1 d0 d1 d2
     go_wp2
     go_roundw
     case rel => exact ⟨j + 1, by omega, by go_num, by rw [HNX.out]; go_num, HF4.out, HR4, hO4⟩
     case measure => simp [intOf]; omega
    ·have e : n = j := by omega
     subst e
     have HT : Hid (TrpL wr (some ⟨b, off, none⟩) (mkTrps k l) (b :: (List.range n).flatMap f)) :=
      Sl.fam hF (Nat.lt_of_lt_of_le hb hO.size) (by rw [mkTrps_len]; exact Hn.out) (fun i hi => by
       rw [mkTrps_len, Hn.out] at hi
       simp [upto, mkTrps, hi])
     clear hF
     go_wp2
     go_ret
     exact ⟨rfl, HT.out, HFR.out, hO⟩

end Go.Proofs.Ytkmccjjghpnejaa
