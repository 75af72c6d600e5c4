/-
  Stops' names, calls, walks, trips and timetables, marked: contracts.
-/
import Derived.Test.YtonedkibbdbgjaaMarkN
import Derived.Test.YtonedkibbdbgjaaLinO
namespace Go.Proofs.Ytonedkibbdbgjaa
open Go.RowKit Go.Maps

def mkStrs (k : Nat) (l : List ByteArray) : List ByteArray := (List.range l.length).map fun i => mT (k + i)
theorem mkStrs_len (k : Nat) (l : List ByteArray) : (mkStrs k l).length = l.length := by simp [mkStrs]
def mkCal (k : Nat) : CalD := ⟨(k : Int), ((k + 1 : Nat) : Int), ((k + 2 : Nat) : Int)⟩
def mkCals (k : Nat) (l : List CalD) : List CalD := (List.range l.length).map fun i => mkCal (k + 3 * i)
theorem mkCals_len (k : Nat) (l : List CalD) : (mkCals k l).length = l.length := by simp [mkCals]
def mkWlk (k : Nat) : WlkD := ⟨(k : Int), ((k + 1 : Nat) : Int), ((k + 2 : Nat) : Int)⟩
def mkWlks (k : Nat) (l : List WlkD) : List WlkD := (List.range l.length).map fun i => mkWlk (k + 3 * i)
theorem mkWlks_len (k : Nat) (l : List WlkD) : (mkWlks k l).length = l.length := by simp [mkWlks]
theorem getS_at {l : List ByteArray} (d : ByteArray) {i : Nat} (h : i < l.length) : l.getD i d = l[i] := by simp [List.getD, h]

set_option maxRecDepth 100000 in
set_option maxHeartbeats 1000000 in
theorem markStringS_any (a : Option Addr) (n c : Nat) (l : List ByteArray) (bs : List Nat) (k : Nat) (w : World) (hT : StrL w a l bs) (hf : ∀ x ∈ bs, ∀ j, w.frozen? ⟨x, j, none⟩ = false) (hn : l.length = n) (hm : n ≤ 1048576) (h0k : 0 < k) (hk : k ≤ 1125899906842624) :
    Calls Try.prog 11 #[.slice a n c, .int .i64 k] w fun e w' => e = .returned (.int .i64 ((k + 1 * n : Nat) : Int)) ∧ StrL w' a (mkStrs k l) bs ∧ (∀ x ∈ bs, ∀ j, w'.frozen? ⟨x, j, none⟩ = false) ∧ Onl bs w w' := by
  by_cases h0 : n = 0
  · subst h0
    obtain rfl : l = [] := List.length_eq_zero_iff.1 hn
    have HT : Hid (StrL w a (mkStrs k []) bs) := hT
    clear hT
    go_enter Try.func11, Try.ntmps11
    go_wp2
    go_loopw [1, 5] (fun t i wr => t = .int .i64 k ∧ i = .int .i64 0 ∧ wr = w) (fun _ _ _ => 0)
    case atStart => exact ⟨rfl, rfl, rfl⟩
    case round =>
      obtain ⟨rfl, rfl, rfl⟩ := hrel
      go_wp2
      go_ret
      exact ⟨by simp, HT.out, hf, Onl.refl _ _⟩
  · rcases hT with ⟨rfl, _⟩ | ⟨b, off, f, rfl, hb, rfl, hx⟩
    · exact absurd hn.symm h0
    · have hfam : Fam 1 StrE w b off n (fun i => l.getD i ⟨#[]⟩) f := fun i hi => by
        show StrE w b (off + i * 1) (l.getD i ⟨#[]⟩) (f i)
        rw [getS_at ⟨#[]⟩ (show i < l.length by omega)]
        exact hx i (by omega)
      have hbf : ∀ j, w.frozen? ⟨b, j, none⟩ = false := hf b (by simp)
      have Hn : Hid (l.length = n) := hn
      have hfe : ∀ i, i < n → f i = [] := fun i hi => (hfam i hi).1
      clear hn hx hf
      go_enter Try.func11, Try.ntmps11
      go_wp2
      go_loopw [1, 5] (fun t i wr => ∃ j : Nat, j ≤ n ∧ i = .int .i64 j ∧ t = .int .i64 ((k + 1 * j : Nat) : Int) ∧ Fam 1 StrE wr b off n (upto j (fun i => mT (k + 1 * i)) (fun i => l.getD i ⟨#[]⟩)) f ∧ (∀ x, wr.frozen? ⟨b, x, none⟩ = false) ∧ Onl [b] w wr) (fun _ i _ => n - (intOf i).toNat)
      case atStart => exact ⟨0, Nat.zero_le _, rfl, by simp, by rw [upto_zero]; exact hfam, hbf, Onl.refl _ _⟩
      case round =>
        obtain ⟨j, hj, rfl, rfl, hF, hfr, hO⟩ := hrel
        have hbr := Nat.lt_of_lt_of_le hb hO.size
        by_cases hlt : j < n
        · obtain ⟨_, _, c0⟩ := hF j hlt
          have hlt' : (j : Int) < (n : Int) := by omega
          obtain ⟨kk, hkk⟩ : ∃ kk, k + 1 * j = kk := ⟨_, rfl⟩
          have hk1 : 0 < kk := by omega
          have hk2 : kk ≤ 1125902004000000 := by omega
          have HK : Hid (k + 1 * (j + 1) = kk + 1) := (by omega : k + 1 * (j + 1) = kk + 1)
          have HM : Hid (mT (k + 1 * j) = mT kk) := (by rw [hkk] : mT (k + 1 * j) = mT kk)
          rw [hkk]
          have hstep : ∀ w', (∀ o, o < off + j * 1 ∨ off + j * 1 + 1 ≤ o → w'.cell? ⟨b, o, none⟩ = wr.cell? ⟨b, o, none⟩) → StrE w' b (off + j * 1) (mT kk) [] → Fam 1 StrE w' b off n (upto (j + 1) (fun i => mT (k + 1 * i)) (fun i => l.getD i ⟨#[]⟩)) f := fun w' h1 h2 => by
            have := hF.step strE (w' := w') (j := j) (mT kk) h1 (fun i hi _ => by rw [hfe i hi]; exact fun x hx => nomatch hx) (by rw [hfe j hlt]; exact h2)
            rw [← HM.out, upto_step j (fun i => mT (k + 1 * i)) (fun i => l.getD i ⟨#[]⟩)] at this
            exact this
          clear hF hkk
          simp only [Nat.mul_one] at c0 hstep
          have f0 := hfr (off + j)
          go_wp2_with fail
          refine (markText_any kk _ hk1 (by omega)).mono ?_
          rintro e w1 ⟨rfl, hb1⟩
          have g0 := bel_cellM hb1 hbr c0
          have fr1 : ∀ x, w1.frozen? ⟨b, x, none⟩ = false := fun x => by rw [hb1.out.frozen (p := ⟨b, x, none⟩) hbr]; exact hfr x
          have HF1 : Hid (Fam 1 StrE (w1.setCell ⟨b, off + j, none⟩ (.string (mT kk))) b off n (upto (j + 1) (fun i => mT (k + 1 * i)) (fun i => l.getD i ⟨#[]⟩)) f) :=
            hstep _ (fun o ho => by rw [World.cell?_setCell_other _ _ _ _ (fun e => by have := congrArg Addr.off e; simp at this; omega)]; exact hb1.out.cell (p := ⟨b, o, none⟩) hbr)
              ⟨rfl, by have := mT_size kk; unfold maxLen; omega, World.cell?_setCell_same _ _ _ g0⟩
          have hO1 := (hO.bel hb1).set (b := b) (by simp) (off + j) (.string (mT kk))
          have hfr1 : ∀ x, (w1.setCell ⟨b, off + j, none⟩ (.string (mT kk))).frozen? ⟨b, x, none⟩ = false := fun x => by rw [World.frozen?_setCell]; exact fr1 x
          clear hstep hO hb1 c0
          go_wp2
          go_roundw
          case rel => exact ⟨j + 1, by omega, by go_num, by rw [HK.out]; go_num, HF1.out, hfr1, hO1⟩
          case measure => simp [intOf]; omega
        · have e : n = j := by omega
          subst e
          have HS : Hid (StrL wr (some ⟨b, off, none⟩) (mkStrs k l) (b :: (List.range l.length).flatMap f)) := by
            rw [Hn.out]
            exact Sl.fam hF (Nat.lt_of_lt_of_le hb hO.size) (by rw [mkStrs_len]; exact Hn.out) (fun i hi => by
              rw [mkStrs_len, Hn.out] at hi
              simp [upto, mkStrs, hi])
          have HO : Hid (Onl (b :: (List.range l.length).flatMap f) w wr) := hO.mono (fun x hx => by simp at hx; simp [hx])
          have HR : Hid (∀ x ∈ b :: (List.range l.length).flatMap f, ∀ j, wr.frozen? ⟨x, j, none⟩ = false) := fun x hx j => by
            rcases List.mem_cons.1 hx with rfl | hx
            · exact hfr j
            · obtain ⟨i, hi, hx⟩ := List.mem_flatMap.1 hx
              rw [hfe i (by rw [← Hn.out]; exact List.mem_range.1 hi)] at hx
              exact nomatch hx
          clear hF hO
          go_wp2
          go_ret
          exact ⟨rfl, HS.out, HR.out, HO.out⟩

def mkTrp (k : Nat) (d : TrpD) : TrpD := ⟨mT k, ((k + 1 : Nat) : Int), mkCals (k + 2) d.calls⟩
/-- With which number the marks of trip i begin. -/
def stTrp (k : Nat) (l : List TrpD) : Nat → Nat
  | 0 => k
  | i + 1 => stTrp k l i + (2 + 3 * (l.getD i ⟨⟨#[]⟩, 0, []⟩).calls.length)
def mkTrps (k : Nat) (l : List TrpD) : List TrpD := (List.range l.length).map fun i => mkTrp (stTrp k l i) (l.getD i ⟨⟨#[]⟩, 0, []⟩)
theorem mkTrps_len (k : Nat) (l : List TrpD) : (mkTrps k l).length = l.length := by simp [mkTrps]
theorem stTrp_bd {k : Nat} {l : List TrpD} (hs : ∀ i (h : i < l.length), l[i].calls.length ≤ 1048576) : ∀ j, j ≤ l.length → k ≤ stTrp k l j ∧ stTrp k l j ≤ k + j * 3145730
  | 0, _ => by simp [stTrp]
  | j + 1, hj => by
    have h1 := stTrp_bd (k := k) hs j (by omega)
    have h2 := hs j (by omega)
    simp only [stTrp, getD_at ⟨⟨#[]⟩, 0, []⟩ (show j < l.length by omega)]
    omega

end Go.Proofs.Ytonedkibbdbgjaa
