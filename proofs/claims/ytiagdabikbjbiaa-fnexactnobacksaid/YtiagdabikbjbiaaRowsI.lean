/-
  Rows of rows of numbers: in memory, held against each other, marked, the marks held: contracts.
-/
import Derived.Test.YtiagdabikbjbiaaMarkN
import Derived.Test.YtiagdabikbjbiaaHeldI
import Derived.Test.YtiagdabikbjbiaaDInt64
namespace Go.Proofs.Ytiagdabikbjbiaa
open Go.RowKit Go.Maps

def IsE : Elem (List Int) := fun w b o d bs => ∃ a c, d.length ≤ maxLen ∧ w.cell? ⟨b, o, none⟩ = some (.slice a d.length c) ∧ Ints w a d bs
theorem isE : Stays 1 IsE := ⟨fun ⟨a, c, hl, h0, h2⟩ hc hA => ⟨a, c, hl, same_cell hc 0 (by decide) h0, h2.alike intE hA⟩, fun ⟨_, _, _, _, h⟩ => Sl.lt intE h⟩
abbrev IsL := Sl 1 IsE

set_option maxRecDepth 100000 in
set_option maxHeartbeats 1000000 in
theorem eqInt64SS_any (a a' : Option Addr) (n c c' : Nat) (L : List (List Int)) (bs bs' : List Nat) (w : World) (hP : IsL w a L bs) (hP' : IsL w a' L bs') (hn : L.length = n) (hm : n ≤ 1048576) (hs : ∀ d ∈ L, d.length ≤ 1048576) :
    Calls Try.prog 12 #[.slice a n c, .slice a' n c'] w fun e w' => e = .returned (.bool true) ∧ Bel w w' := by
  have Hn : Hid (L.length = n) := hn
  have Hs : Hid (∀ d ∈ L, d.length ≤ 1048576) := hs
  clear hn hs
  go_enter Try.func12, Try.ntmps12
  go_wp2
  go_loopw [5] (fun i wr => ∃ k : Nat, k ≤ n ∧ i = .int .i64 k ∧ Bel w wr) (fun i _ => n - (intOf i).toNat)
  case atStart => exact ⟨0, Nat.zero_le _, rfl, Bel.refl _⟩
  case round =>
    obtain ⟨k, hk, rfl, hbel⟩ := hrel
    by_cases hlt : k < n
    · have hkl : k < L.length := by rw [Hn.out]; exact hlt
      obtain ⟨b, off, f, rfl, h2, h3⟩ := (hP.bel isE hbel).out hkl
      obtain ⟨b', off', f', rfl, h2', h3'⟩ := (hP'.bel isE hbel).out hkl
      obtain ⟨a0, k0, m0, c0, t0⟩ := h3 k hkl
      obtain ⟨a0', k0', m0', c0', t0'⟩ := h3' k hkl
      rw [Nat.mul_one] at c0 c0'
      have hsk := Hs.out L[k] (List.getElem_mem hkl)
      obtain ⟨d, Hd⟩ : ∃ d, Hid (L[k] = d) := ⟨_, (rfl : L[k] = _)⟩
      rw [Hd.out] at c0 c0' t0 t0' hsk
      obtain ⟨q, Hq⟩ : ∃ q, Hid (d.length = q) := ⟨_, (rfl : d.length = _)⟩
      rw [Hq.out] at c0 c0' hsk
      have hR : ∀ w', Bel wr w' → w'.cell? ⟨b, off + k, none⟩ = some (.slice a0 q k0) ∧ w'.cell? ⟨b', off' + k, none⟩ = some (.slice a0' q k0') := fun w' h => ⟨bel_cellM h h2 c0, bel_cellM h h2' c0'⟩
      have T0 : ∀ w', Bel wr w' → Ints w' a0 d (f k) := fun w' h => t0.bel intE h
      have T0' : ∀ w', Bel wr w' → Ints w' a0' d (f' k) := fun w' h => t0'.bel intE h
      have hlt' : (k : Int) < (n : Int) := by omega
      have g0 : Bel wr wr := Bel.refl _
      clear h3 h3' c0 c0' h2 h2' hP hP' t0 t0'
      go_wp2
      go_region_held3 (fun w' => Bel wr w') (repeat (first | exact g0 | refine Bel.drew ?_ | assumption | refine bel_then (by assumption) ?_))
        (first
          | (go_at_call 36; refine (eqInt64S_same a0 a0' q k0 k0' d (f k) (f' k) _ (T0 _ (by assumption)) (T0' _ (by assumption)) Hq.out hsk).mono ?_; rintro e w' ⟨rfl, hbk⟩))
      have hH : Bel wr w' := by assumption
      go_wp2
      go_roundw
      case rel => exact ⟨k + 1, by omega, by go_num, bel_step hbel hH⟩
      case measure => simp [intOf]; omega
    · have e : k = n := by omega
      subst e
      go_wp2
      go_ret
      exact ⟨rfl, hbel⟩

/-- With which number the marks of row i begin. -/
def stIs (k : Nat) (l : List (List Int)) : Nat → Nat
  | 0 => k
  | i + 1 => stIs k l i + (l.getD i []).length
def mkIss (k : Nat) (l : List (List Int)) : List (List Int) := (List.range l.length).map fun i => mkInts (stIs k l i) (l.getD i [])
theorem mkIss_len (k : Nat) (l : List (List Int)) : (mkIss k l).length = l.length := by simp [mkIss]
theorem stIs_bd {k : Nat} {l : List (List Int)} (hs : ∀ i (h : i < l.length), l[i].length ≤ 1048576) : ∀ j, j ≤ l.length → k ≤ stIs k l j ∧ stIs k l j ≤ k + j * 1048576
  | 0, _ => by simp [stIs]
  | j + 1, hj => by
    have h1 := stIs_bd (k := k) hs j (by omega)
    have h2 := hs j (by omega)
    simp only [stIs, getD_at ([] : List Int) (show j < l.length by omega)]
    omega

set_option maxRecDepth 100000 in
set_option maxHeartbeats 2000000 in
theorem markInt64SS_any (a : Option Addr) (n c : Nat) (l : List (List Int)) (bs : List Nat) (k : Nat) (w : World) (hT : IsL w a l bs) (hf : ∀ x ∈ bs, ∀ j, w.frozen? ⟨x, j, none⟩ = false) (hd : bs.Nodup) (hn : l.length = n) (hm : n ≤ 1048576) (hs : ∀ i (h : i < l.length), l[i].length ≤ 1048576) (hk : k ≤ 4503599627370) :
    Calls Try.prog 14 #[.slice a n c, .int .i64 k] w fun e w' => e = .returned (.int .i64 (stIs k l n : Nat)) ∧ IsL w' a (mkIss k l) bs ∧ (∀ x ∈ bs, ∀ j, w'.frozen? ⟨x, j, none⟩ = false) ∧ Onl bs w w' := by
  by_cases h0 : n = 0
  · subst h0
    obtain rfl : l = [] := List.length_eq_zero_iff.1 hn
    have HT : Hid (IsL w a (mkIss k []) bs) := hT
    clear hT
    go_enter Try.func14, Try.ntmps14
    go_wp2
    go_loopw [1, 5] (fun t i wr => t = .int .i64 k ∧ i = .int .i64 0 ∧ wr = w) (fun _ _ _ => 0)
    case atStart => exact ⟨rfl, rfl, rfl⟩
    case round =>
      obtain ⟨rfl, rfl, rfl⟩ := hrel
      go_wp2
      go_ret
      exact ⟨rfl, HT.out, hf, Onl.refl _ _⟩
  · rcases hT with ⟨rfl, _⟩ | ⟨b, off, f, rfl, hb, rfl, hx⟩
    · exact absurd hn.symm h0
    · have hfam : Fam 1 IsE w b off n (fun i => l.getD i []) f := fun i hi => by
        show IsE w b (off + i * 1) (l.getD i []) (f i)
        rw [getD_at [] (show i < l.length by omega)]
        exact hx i (by omega)
      rw [hn] at hd hf ⊢
      obtain ⟨hdb, hdf⟩ := List.nodup_cons.1 hd
      have Hn : Hid (l.length = n) := hn
      have HS : Hid (∀ i (h : i < l.length), l[i].length ≤ 1048576) := hs
      have HB : Hid (∀ j, j ≤ l.length → k ≤ stIs k l j ∧ stIs k l j ≤ k + j * 1048576) := stIs_bd hs
      have HDF : Hid ((List.range n).flatMap f).Nodup := hdf
      have HDB : Hid (∀ i, i < n → b ∉ f i) := fun i hi h => hdb (List.mem_flatMap.2 ⟨i, List.mem_range.2 hi, h⟩)
      clear hn hx hd hdb hdf hs
      go_enter Try.func14, Try.ntmps14
      go_wp2
      go_loopw [1, 5] (fun t i wr => ∃ j : Nat, j ≤ n ∧ i = .int .i64 j ∧ t = .int .i64 (stIs k l j : Nat) ∧ Fam 1 IsE wr b off n (upto j (fun i => mkInts (stIs k l i) (l.getD i [])) (fun i => l.getD i [])) f ∧ Hid (∀ x ∈ b :: (List.range n).flatMap f, ∀ o, wr.frozen? ⟨x, o, none⟩ = false) ∧ Onl (b :: (List.range n).flatMap f) w wr) (fun _ i _ => n - (intOf i).toNat)
      case atStart => exact ⟨0, Nat.zero_le _, rfl, rfl, by rw [upto_zero]; exact hfam, hf, Onl.refl _ _⟩
      case round =>
        obtain ⟨j, hj, rfl, rfl, hF, HFR, hO⟩ := hrel
        have hbr := Nat.lt_of_lt_of_le hb hO.size
        by_cases hlt : j < n
        · have hjl : j < l.length := by rw [Hn.out]; exact hlt
          have hj0 := hF j hlt
          have eD : upto j (fun i => mkInts (stIs k l i) (l.getD i [])) (fun i => l.getD i []) j = l.getD j [] := by simp [upto]
          rw [eD] at hj0
          obtain ⟨dd, Hdd⟩ : ∃ dd, Hid (dd = l.getD j []) := ⟨_, (rfl : l.getD j [] = _)⟩
          rw [← Hdd.out] at hj0
          obtain ⟨pa, pc, ml1, c1, t1⟩ := hj0
          have htl1 : dd.length ≤ 1048576 := by rw [Hdd.out, getD_at _ hjl]; exact HS.out j hjl
          have hbj := HDB.out j hlt
          have hsub : ∀ x ∈ f j, x ∈ b :: (List.range n).flatMap f := fun x hx => List.mem_cons_of_mem _ (List.mem_flatMap.2 ⟨j, List.mem_range.2 hlt, hx⟩)
          obtain ⟨kk, HK⟩ : ∃ kk, Hid (stIs k l j = kk) := ⟨_, (rfl : stIs k l j = _)⟩
          have hkk := HB.out j (by rw [Hn.out]; exact hj)
          rw [HK.out] at hkk ⊢
          have HNX : Hid (stIs k l (j + 1) = kk + dd.length) := by
            show stIs k l j + (l.getD j []).length = _
            rw [HK.out, Hdd.out]
          have hlt' : (j : Int) < (n : Int) := by omega
          have hk2 : kk ≤ 1125899900000000 := by omega
          have F1 : ∀ x ∈ f j, ∀ o, wr.frozen? ⟨x, o, none⟩ = false := fun x hx o => HFR.out x (hsub x hx) o
          have c1' : wr.cell? ⟨b, off + j, none⟩ = some (.slice pa dd.length pc) := by rw [Nat.mul_one] at c1; exact c1
          have hFl : ∀ i, i < n → ∀ x ∈ f i, x < wr.heap.size := fun i hi => isE.lt (hF i hi)
          have HFam : Hid (Fam 1 IsE wr b off n (upto j (fun i => mkInts (stIs k l i) (l.getD i [])) (fun i => l.getD i [])) f) := hF
          have HT1 : Hid (Ints wr pa dd (f j)) := t1
          have HF1 : Hid (∀ x ∈ f j, ∀ o, wr.frozen? ⟨x, o, none⟩ = false) := F1
          clear hF t1 F1 c1
          go_wp2_with fail
          refine (markInt64S_any pa _ pc dd (f j) kk _ HT1.out HF1.out rfl htl1 (by omega)).mono ?_
          rintro e w4 ⟨rfl, T4, F4, O4⟩
          have hc4 : ∀ o, w4.cell? ⟨b, o, none⟩ = wr.cell? ⟨b, o, none⟩ := fun o => O4.cell hbr hbj
          have hne : ∀ i, i < n → i ≠ j → ∀ x ∈ f i, x ∉ f j := fun i hi hne x hx => nd_ne HDF.out hi hlt hne x hx
          have HF5 : Hid (Fam 1 IsE w4 b off n (upto (j + 1) (fun i => mkInts (stIs k l i) (l.getD i [])) (fun i => l.getD i [])) f) := by
            have := Fam.step isE HFam.out (w' := w4) (j := j) (mkInts kk dd) (fun o _ => hc4 o)
              (fun i hi hij => O4.alike (fun x hx => hFl i hi x hx) (fun x hx => hne i hi hij x hx))
              ⟨pa, pc, by rw [mkInts_len]; exact ml1, by rw [hc4, mkInts_len, Nat.mul_one]; exact c1', T4⟩
            rw [show mkInts kk dd = (fun i => mkInts (stIs k l i) (l.getD i [])) j by rw [Hdd.out, ← HK.out], upto_step j (fun i => mkInts (stIs k l i) (l.getD i [])) (fun i => l.getD i [])] at this
            exact this
          have hO5 : Onl (b :: (List.range n).flatMap f) w w4 := hO.trans (O4.mono hsub)
          have HR5 : Hid (∀ x ∈ b :: (List.range n).flatMap f, ∀ o, w4.frozen? ⟨x, o, none⟩ = false) := fun x hx o => by
            have hxs : x < wr.heap.size := by
              rcases List.mem_cons.1 hx with rfl | hx
              · exact hbr
              · obtain ⟨i, hi, hx⟩ := List.mem_flatMap.1 hx
                exact hFl i (List.mem_range.1 hi) x hx
            by_cases h1 : x ∈ f j
            · exact F4 x h1 o
            · rw [O4.frozen hxs h1]
              exact HFR.out x hx o
          clear hO O4 F4 T4 hc4 HFam hFl c1' HT1 HF1
          go_wp2
          go_roundw
          case rel => exact ⟨j + 1, by omega, by go_num, by rw [HNX.out]; go_num, HF5.out, HR5, hO5⟩
          case measure => simp [intOf]; omega
        · have e : n = j := by omega
          subst e
          have HT : Hid (IsL wr (some ⟨b, off, none⟩) (mkIss k l) (b :: (List.range n).flatMap f)) :=
            Sl.fam hF (Nat.lt_of_lt_of_le hb hO.size) (by rw [mkIss_len]; exact Hn.out) (fun i hi => by
              rw [mkIss_len, Hn.out] at hi
              simp [upto, mkIss, hi])
          clear hF
          go_wp2
          go_ret
          exact ⟨rfl, HT.out, HFR.out, hO⟩

end Go.Proofs.Ytiagdabikbjbiaa
