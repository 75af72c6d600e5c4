/-
  A list of numbers, its marks held: the contract.
  Contracts of the laws' own functions on Int64 data: counted, copied, held against each other.
  Rows of rows of numbers: in memory, held against each other, marked, the marks held: contracts.
  Contracts of the laws' own functions on Label data: counted, copied, held against each other.
  A row of labels is marked: contract (out of PlaceL).
  Rows of rows of labels: in memory, counted, copied, held against each other, marked: contracts.
-/
import Derived.Test.YtpbpnkklnbmkeaaMarkT
import Derived.Test.YtpbpnkklnbmkeaaMem
import Derived.Deep.LoopGhost
import Derived.OwnWalk
import Derived.Deep.RegionHeld3
import Derived.Test.YtpbpnkklnbmkeaaMarkN
import Derived.Test.YtpbpnkklnbmkeaaLblD
namespace Go.Proofs.Ytpbpnkklnbmkeaa
open Go.RowKit Go.Maps

set_option maxRecDepth 100000 in
set_option maxHeartbeats 1000000 in
theorem heldInt64S_any (a : Option Addr) (n c : Nat) (l : List Int) (bs : List Nat) (k : Nat) (w : World) (hT : Ints w a (mkInts k l) bs) (hn : l.length = n) (hm : n ≤ 1048576) (hk : k ≤ 1125899906842624) :
    Calls Try.prog 47 #[.slice a n c, .int .i64 k] w fun e w' => e = .returned (.int .i64 ((k + n : Nat) : Int)) ∧ w' = w := by
  by_cases h0 : n = 0
  · subst h0
    clear hT
    go_enter Try.func47, Try.ntmps47
    go_wp2
    go_loopw [1, 5] (fun t i wr => t = .int .i64 k ∧ i = .int .i64 0 ∧ wr = w) (fun _ _ _ => 0)
    case atStart => exact ⟨rfl, rfl, rfl⟩
    case round =>
      obtain ⟨rfl, rfl, rfl⟩ := hrel
      go_wp2
      go_ret
      exact ⟨by simp, rfl⟩
  · rcases hT with ⟨e, _⟩ | ⟨b, off, f, rfl, hb, rfl, hx⟩
    · have := congrArg List.length e
      rw [mkInts_len] at this
      exact absurd (hn.symm.trans this) h0
    · have HC : Hid (∀ i, i < n → w.cell? ⟨b, off + i, none⟩ = some (.int .i64 ((k + i : Nat) : Int))) := fun i hi => by
        have hi' : i < (mkInts k l).length := by rw [mkInts_len]; omega
        have := (hx i hi').2.2
        rw [Nat.mul_one] at this
        rw [this]
        simp [mkInts]
      clear hx
      go_enter Try.func47, Try.ntmps47
      go_wp2
      go_loopw [1, 5] (fun t i wr => ∃ j : Nat, j ≤ n ∧ i = .int .i64 j ∧ t = .int .i64 ((k + j : Nat) : Int) ∧ wr = w) (fun _ i _ => n - (intOf i).toNat)
      case atStart => exact ⟨0, Nat.zero_le _, rfl, by simp, rfl⟩
      case round =>
        obtain ⟨j, hj, rfl, rfl, rfl⟩ := hrel
        by_cases hlt : j < n
        · have cx := HC.out j hlt
          have hlt' : (j : Int) < (n : Int) := by omega
          go_wp2
          go_roundw
          case rel => exact ⟨j + 1, by omega, by go_num, by go_num, trivial⟩
          case measure => simp [intOf]; omega
        · have e : n = j := by omega
          subst e
          go_wp2
          go_ret
          exact ⟨rfl, rfl⟩
end Go.Proofs.Ytpbpnkklnbmkeaa

namespace Go.Proofs.Ytpbpnkklnbmkeaa
open Go.RowKit

theorem infoInt64 : (Try.prog.info? 2).map (fun i => (i.zero, i.size, i.bytes)) = some (some (.int .i64 0), 1, 8) := by kernel_rfl
set_option maxHeartbeats 1000000 in
theorem eqInt64S_same (a a' : Option Addr) (n c c' : Nat) (l : List Int) (bs bs' : List Nat) (w : World) (hP : Ints w a l bs) (hP' : Ints w a' l bs') (hn : l.length = n) (hm : n ≤ 1048576) :
    Calls Try.prog 43 #[.slice a n c, .slice a' n c'] w fun e w' => e = .returned (.bool true) ∧ Bel w w' := by
  have Hn : Hid (l.length = n) := hn
  clear hn
  go_enter Try.func43, Try.ntmps43
  go_wp2
  go_loopw [5] (fun i wr => ∃ k : Nat, k ≤ n ∧ i = .int .i64 k ∧ Bel w wr) (fun i _ => n - (intOf i).toNat)
  case atStart => exact ⟨0, Nat.zero_le _, rfl, Bel.refl _⟩
  case round =>
    obtain ⟨k, hk, rfl, hbel⟩ := hrel
    by_cases hlt : k < n
    · have hkl : k < l.length := by rw [Hn.out]; exact hlt
      obtain ⟨b, off, f, rfl, h2, h3⟩ := (hP.bel intE hbel).out hkl
      obtain ⟨b', off', f', rfl, h2', h3'⟩ := (hP'.bel intE hbel).out hkl
      obtain ⟨_, in0, c0⟩ := h3 k hkl
      obtain ⟨_, in0', c0'⟩ := h3' k hkl
      simp only [Nat.mul_one] at c0 c0'
      have hR : ∀ w', Bel wr w' → w'.cell? ⟨b, off + k, none⟩ = some (.int .i64 l[k]) ∧ w'.cell? ⟨b', off' + k, none⟩ = some (.int .i64 l[k]) :=
        fun w' h => ⟨bel_cellM h h2 c0, bel_cellM h h2' c0'⟩
      have hlt' : (k : Int) < (n : Int) := by omega
      have g0 : Bel wr wr := Bel.refl _
      clear h3 h3' c0 c0' h2 h2' hP hP'
      go_wp2
      go_quiet (fail)
      have hH : Bel wr (wr.drewN nq) := bel_drewN (Bel.refl _) _
      go_wp2
      go_roundw
      case rel => exact ⟨k + 1, by omega, by go_num, bel_step hbel hH⟩
      case measure => simp [intOf]; omega
    · have e : k = n := by omega
      subst e
      go_wp2
      go_ret
      exact ⟨rfl, hbel⟩

end Go.Proofs.Ytpbpnkklnbmkeaa

namespace Go.Proofs.Ytpbpnkklnbmkeaa
open Go.RowKit Go.Maps

def IsE : Elem (List Int) := fun w b o d bs => ∃ a c, d.length ≤ maxLen ∧ w.cell? ⟨b, o, none⟩ = some (.slice a d.length c) ∧ Ints w a d bs
theorem isE : Stays 1 IsE := ⟨fun ⟨a, c, hl, h0, h2⟩ hc hA => ⟨a, c, hl, same_cell hc 0 (by decide) h0, h2.alike intE hA⟩, fun ⟨_, _, _, _, h⟩ => Sl.lt intE h⟩
abbrev IsL := Sl 1 IsE

set_option maxRecDepth 100000 in
set_option maxHeartbeats 1000000 in
theorem eqInt64SS_any (a a' : Option Addr) (n c c' : Nat) (L : List (List Int)) (bs bs' : List Nat) (w : World) (hP : IsL w a L bs) (hP' : IsL w a' L bs') (hn : L.length = n) (hm : n ≤ 1048576) (hs : ∀ d ∈ L, d.length ≤ 1048576) :
    Calls Try.prog 21 #[.slice a n c, .slice a' n c'] w fun e w' => e = .returned (.bool true) ∧ Bel w w' := by
  have Hn : Hid (L.length = n) := hn
  have Hs : Hid (∀ d ∈ L, d.length ≤ 1048576) := hs
  clear hn hs
  go_enter Try.func21, Try.ntmps21
  go_wp2
  go_loopw [5] (fun i wr => ∃ k : Nat, k ≤ n ∧ i = .int .i64 k ∧ Bel w wr) (fun i _ => n - (intOf i).toNat)
  case atStart => exact ⟨0, Nat.zero_le _, rfl, Bel.refl _⟩
  case round =>
    obtain ⟨k, hk, rfl, hbel⟩ := hrel
    by_cases hlt : k < n
    · have hkl : k < L.length := by rw [Hn.out]; exact hlt
      obtain ⟨b, off, f, rfl, h2, h3⟩ := (hP.bel isE hbel).out hkl
      obtain ⟨b', off', f', rfl, h2', h3'⟩ := (hP'.bel isE hbel).out hkl
      obtain ⟨a0, k0, m0, c0, t0⟩ := h3 k hkl
      obtain ⟨a0', k0', m0', c0', t0'⟩ := h3' k hkl
      rw [Nat.mul_one] at c0 c0'
      have hsk := Hs.out L[k] (List.getElem_mem hkl)
      obtain ⟨d, Hd⟩ : ∃ d, Hid (L[k] = d) := ⟨_, (rfl : L[k] = _)⟩
      rw [Hd.out] at c0 c0' t0 t0' hsk
      obtain ⟨q, Hq⟩ : ∃ q, Hid (d.length = q) := ⟨_, (rfl : d.length = _)⟩
      rw [Hq.out] at c0 c0' hsk
      have hR : ∀ w', Bel wr w' → w'.cell? ⟨b, off + k, none⟩ = some (.slice a0 q k0) ∧ w'.cell? ⟨b', off' + k, none⟩ = some (.slice a0' q k0') := fun w' h => ⟨bel_cellM h h2 c0, bel_cellM h h2' c0'⟩
      have T0 : ∀ w', Bel wr w' → Ints w' a0 d (f k) := fun w' h => t0.bel intE h
      have T0' : ∀ w', Bel wr w' → Ints w' a0' d (f' k) := fun w' h => t0'.bel intE h
      have hlt' : (k : Int) < (n : Int) := by omega
      have g0 : Bel wr wr := Bel.refl _
      clear h3 h3' c0 c0' h2 h2' hP hP' t0 t0'
      go_wp2
      go_region_held3 (fun w' => Bel wr w') (repeat (first | exact g0 | refine Bel.drew ?_ | assumption | refine bel_then (by assumption) ?_))
        (first
          | (go_at_call 43; refine (eqInt64S_same a0 a0' q k0 k0' d (f k) (f' k) _ (T0 _ (by assumption)) (T0' _ (by assumption)) Hq.out hsk).mono ?_; rintro e w' ⟨rfl, hbk⟩))
      have hH : Bel wr w' := by assumption
      go_wp2
      go_roundw
      case rel => exact ⟨k + 1, by omega, by go_num, bel_step hbel hH⟩
      case measure => simp [intOf]; omega
    · have e : k = n := by omega
      subst e
      go_wp2
      go_ret
      exact ⟨rfl, hbel⟩

/-- With which number the marks of row i begin. -/
def stIs (k : Nat) (l : List (List Int)) : Nat → Nat
  | 0 => k
  | i + 1 => stIs k l i + (l.getD i []).length
def mkIss (k : Nat) (l : List (List Int)) : List (List Int) := (List.range l.length).map fun i => mkInts (stIs k l i) (l.getD i [])
theorem mkIss_len (k : Nat) (l : List (List Int)) : (mkIss k l).length = l.length := by simp [mkIss]
theorem stIs_bd {k : Nat} {l : List (List Int)} (hs : ∀ i (h : i < l.length), l[i].length ≤ 1048576) : ∀ j, j ≤ l.length → k ≤ stIs k l j ∧ stIs k l j ≤ k + j * 1048576
  | 0, _ => by simp [stIs]
  | j + 1, hj => by
    have h1 := stIs_bd (k := k) hs j (by omega)
    have h2 := hs j (by omega)
    simp only [stIs, getD_at ([] : List Int) (show j < l.length by omega)]
    omega

set_option maxRecDepth 100000 in
set_option maxHeartbeats 2000000 in
theorem markInt64SS_any (a : Option Addr) (n c : Nat) (l : List (List Int)) (bs : List Nat) (k : Nat) (w : World) (hT : IsL w a l bs) (hf : ∀ x ∈ bs, ∀ j, w.frozen? ⟨x, j, none⟩ = false) (hd : bs.Nodup) (hn : l.length = n) (hm : n ≤ 1048576) (hs : ∀ i (h : i < l.length), l[i].length ≤ 1048576) (hk : k ≤ 4503599627370) :
    Calls Try.prog 24 #[.slice a n c, .int .i64 k] w fun e w' => e = .returned (.int .i64 (stIs k l n : Nat)) ∧ IsL w' a (mkIss k l) bs ∧ (∀ x ∈ bs, ∀ j, w'.frozen? ⟨x, j, none⟩ = false) ∧ Onl bs w w' := by
  by_cases h0 : n = 0
  · subst h0
    obtain rfl : l = [] := List.length_eq_zero_iff.1 hn
    have HT : Hid (IsL w a (mkIss k []) bs) := hT
    clear hT
    go_enter Try.func24, Try.ntmps24
    go_wp2
    go_loopw [1, 5] (fun t i wr => t = .int .i64 k ∧ i = .int .i64 0 ∧ wr = w) (fun _ _ _ => 0)
    case atStart => exact ⟨rfl, rfl, rfl⟩
    case round =>
      obtain ⟨rfl, rfl, rfl⟩ := hrel
      go_wp2
      go_ret
      exact ⟨rfl, HT.out, hf, Onl.refl _ _⟩
  · rcases hT with ⟨rfl, _⟩ | ⟨b, off, f, rfl, hb, rfl, hx⟩
    · exact absurd hn.symm h0
    · have hfam : Fam 1 IsE w b off n (fun i => l.getD i []) f := fun i hi => by
        show IsE w b (off + i * 1) (l.getD i []) (f i)
        rw [getD_at [] (show i < l.length by omega)]
        exact hx i (by omega)
      rw [hn] at hd hf ⊢
      obtain ⟨hdb, hdf⟩ := List.nodup_cons.1 hd
      have Hn : Hid (l.length = n) := hn
      have HS : Hid (∀ i (h : i < l.length), l[i].length ≤ 1048576) := hs
      have HB : Hid (∀ j, j ≤ l.length → k ≤ stIs k l j ∧ stIs k l j ≤ k + j * 1048576) := stIs_bd hs
      have HDF : Hid ((List.range n).flatMap f).Nodup := hdf
      have HDB : Hid (∀ i, i < n → b ∉ f i) := fun i hi h => hdb (List.mem_flatMap.2 ⟨i, List.mem_range.2 hi, h⟩)
      clear hn hx hd hdb hdf hs
      go_enter Try.func24, Try.ntmps24
      go_wp2
      go_loopw [1, 5] (fun t i wr => ∃ j : Nat, j ≤ n ∧ i = .int .i64 j ∧ t = .int .i64 (stIs k l j : Nat) ∧ Fam 1 IsE wr b off n (upto j (fun i => mkInts (stIs k l i) (l.getD i [])) (fun i => l.getD i [])) f ∧ Hid (∀ x ∈ b :: (List.range n).flatMap f, ∀ o, wr.frozen? ⟨x, o, none⟩ = false) ∧ Onl (b :: (List.range n).flatMap f) w wr) (fun _ i _ => n - (intOf i).toNat)
      case atStart => exact ⟨0, Nat.zero_le _, rfl, rfl, by rw [upto_zero]; exact hfam, hf, Onl.refl _ _⟩
      case round =>
        obtain ⟨j, hj, rfl, rfl, hF, HFR, hO⟩ := hrel
        have hbr := Nat.lt_of_lt_of_le hb hO.size
        by_cases hlt : j < n
        · have hjl : j < l.length := by rw [Hn.out]; exact hlt
          have hj0 := hF j hlt
          have eD : upto j (fun i => mkInts (stIs k l i) (l.getD i [])) (fun i => l.getD i []) j = l.getD j [] := by simp [upto]
          rw [eD] at hj0
          obtain ⟨dd, Hdd⟩ : ∃ dd, Hid (dd = l.getD j []) := ⟨_, (rfl : l.getD j [] = _)⟩
          rw [← Hdd.out] at hj0
          obtain ⟨pa, pc, ml1, c1, t1⟩ := hj0
          have htl1 : dd.length ≤ 1048576 := by rw [Hdd.out, getD_at _ hjl]; exact HS.out j hjl
          have hbj := HDB.out j hlt
          have hsub : ∀ x ∈ f j, x ∈ b :: (List.range n).flatMap f := fun x hx => List.mem_cons_of_mem _ (List.mem_flatMap.2 ⟨j, List.mem_range.2 hlt, hx⟩)
          obtain ⟨kk, HK⟩ : ∃ kk, Hid (stIs k l j = kk) := ⟨_, (rfl : stIs k l j = _)⟩
          have hkk := HB.out j (by rw [Hn.out]; exact hj)
          rw [HK.out] at hkk ⊢
          have HNX : Hid (stIs k l (j + 1) = kk + dd.length) := by
            show stIs k l j + (l.getD j []).length = _
            rw [HK.out, Hdd.out]
          have hlt' : (j : Int) < (n : Int) := by omega
          have hk2 : kk ≤ 1125899900000000 := by omega
          have F1 : ∀ x ∈ f j, ∀ o, wr.frozen? ⟨x, o, none⟩ = false := fun x hx o => HFR.out x (hsub x hx) o
          have c1' : wr.cell? ⟨b, off + j, none⟩ = some (.slice pa dd.length pc) := by rw [Nat.mul_one] at c1; exact c1
          have hFl : ∀ i, i < n → ∀ x ∈ f i, x < wr.heap.size := fun i hi => isE.lt (hF i hi)
          have HFam : Hid (Fam 1 IsE wr b off n (upto j (fun i => mkInts (stIs k l i) (l.getD i [])) (fun i => l.getD i [])) f) := hF
          have HT1 : Hid (Ints wr pa dd (f j)) := t1
          have HF1 : Hid (∀ x ∈ f j, ∀ o, wr.frozen? ⟨x, o, none⟩ = false) := F1
          clear hF t1 F1 c1
          go_wp2_with fail
          refine (markInt64S_any pa _ pc dd (f j) kk _ HT1.out HF1.out rfl htl1 (by omega)).mono ?_
          rintro e w4 ⟨rfl, T4, F4, O4⟩
          have hc4 : ∀ o, w4.cell? ⟨b, o, none⟩ = wr.cell? ⟨b, o, none⟩ := fun o => O4.cell hbr hbj
          have hne : ∀ i, i < n → i ≠ j → ∀ x ∈ f i, x ∉ f j := fun i hi hne x hx => nd_ne HDF.out hi hlt hne x hx
          have HF5 : Hid (Fam 1 IsE w4 b off n (upto (j + 1) (fun i => mkInts (stIs k l i) (l.getD i [])) (fun i => l.getD i [])) f) := by
            have := Fam.step isE HFam.out (w' := w4) (j := j) (mkInts kk dd) (fun o _ => hc4 o)
              (fun i hi hij => O4.alike (fun x hx => hFl i hi x hx) (fun x hx => hne i hi hij x hx))
              ⟨pa, pc, by rw [mkInts_len]; exact ml1, by rw [hc4, mkInts_len, Nat.mul_one]; exact c1', T4⟩
            rw [show mkInts kk dd = (fun i => mkInts (stIs k l i) (l.getD i [])) j by rw [Hdd.out, ← HK.out], upto_step j (fun i => mkInts (stIs k l i) (l.getD i [])) (fun i => l.getD i [])] at this
            exact this
          have hO5 : Onl (b :: (List.range n).flatMap f) w w4 := hO.trans (O4.mono hsub)
          have HR5 : Hid (∀ x ∈ b :: (List.range n).flatMap f, ∀ o, w4.frozen? ⟨x, o, none⟩ = false) := fun x hx o => by
            have hxs : x < wr.heap.size := by
              rcases List.mem_cons.1 hx with rfl | hx
              · exact hbr
              · obtain ⟨i, hi, hx⟩ := List.mem_flatMap.1 hx
                exact hFl i (List.mem_range.1 hi) x hx
            by_cases h1 : x ∈ f j
            · exact F4 x h1 o
            · rw [O4.frozen hxs h1]
              exact HFR.out x hx o
          clear hO O4 F4 T4 hc4 HFam hFl c1' HT1 HF1
          go_wp2
          go_roundw
          case rel => exact ⟨j + 1, by omega, by go_num, by rw [HNX.out]; go_num, HF5.out, HR5, hO5⟩
          case measure => simp [intOf]; omega
        · have e : n = j := by omega
          subst e
          have HT : Hid (IsL wr (some ⟨b, off, none⟩) (mkIss k l) (b :: (List.range n).flatMap f)) :=
            Sl.fam hF (Nat.lt_of_lt_of_le hb hO.size) (by rw [mkIss_len]; exact Hn.out) (fun i hi => by
              rw [mkIss_len, Hn.out] at hi
              simp [upto, mkIss, hi])
          clear hF
          go_wp2
          go_ret
          exact ⟨rfl, HT.out, HFR.out, hO⟩

set_option maxRecDepth 100000 in
set_option maxHeartbeats 2000000 in
theorem heldInt64SS_any (a : Option Addr) (n c : Nat) (l : List (List Int)) (bs : List Nat) (k : Nat) (w : World) (hT : IsL w a (mkIss k l) bs) (hn : l.length = n) (hm : n ≤ 1048576) (hs : ∀ i (h : i < l.length), l[i].length ≤ 1048576) (hk : k ≤ 4503599627370) :
    Calls Try.prog 25 #[.slice a n c, .int .i64 k] w fun e w' => e = .returned (.int .i64 (stIs k l n : Nat)) ∧ w' = w := by
  have Hn : Hid (l.length = n) := hn
  have HS : Hid (∀ i (h : i < l.length), l[i].length ≤ 1048576) := hs
  have HB : Hid (∀ j, j ≤ l.length → k ≤ stIs k l j ∧ stIs k l j ≤ k + j * 1048576) := stIs_bd hs
  clear hn hs
  go_enter Try.func25, Try.ntmps25
  go_wp2
  go_loopw [1, 5] (fun t i wr => ∃ j : Nat, j ≤ n ∧ i = .int .i64 j ∧ t = .int .i64 (stIs k l j : Nat) ∧ wr = w) (fun _ i _ => n - (intOf i).toNat)
  case atStart => exact ⟨0, Nat.zero_le _, rfl, rfl, rfl⟩
  case round =>
    obtain ⟨j, hj, rfl, rfl, hw⟩ := hrel
    subst hw
    by_cases hlt : j < n
    · have hjl : j < (mkIss k l).length := by rw [mkIss_len, Hn.out]; exact hlt
      have hjd : j < l.length := by rw [Hn.out]; exact hlt
      obtain ⟨b, off, f, rfl, hb, hx⟩ := hT.out hjl
      have hj0 := hx j hjl
      rw [show (mkIss k l)[j] = mkInts (stIs k l j) l[j] by simp [mkIss, hjd]] at hj0
      have htl := HS.out j hjd
      have hkk := HB.out j (by rw [Hn.out]; exact hj)
      have HNX : Hid (stIs k l (j + 1) = stIs k l j + l[j].length) := by
        show stIs k l j + (l.getD j []).length = _
        rw [getD_at _ hjd]
      obtain ⟨d, Hd⟩ : ∃ d, Hid (d = l[j]) := ⟨_, (rfl : l[j] = _)⟩
      obtain ⟨kk, HK⟩ : ∃ kk, Hid (stIs k l j = kk) := ⟨_, (rfl : stIs k l j = _)⟩
      rw [HK.out, ← Hd.out] at hj0 HNX
      rw [HK.out] at hkk ⊢
      rw [← Hd.out] at htl
      obtain ⟨na, nc, _, e1, u1⟩ := hj0
      have hlt' : (j : Int) < (n : Int) := by omega
      have hk2 : kk ≤ 1125899900000000 := by omega
      have c1 : wr.cell? ⟨b, off + j, none⟩ = some (.slice na d.length nc) := by rw [Nat.mul_one, mkInts_len] at e1; exact e1
      have HU : Hid (Ints wr na (mkInts kk d) (f j)) := u1
      clear hx e1 u1
      go_wp2_with fail
      refine (heldInt64S_any na _ nc d (f j) kk _ HU.out rfl htl (by omega)).mono ?_
      rintro e w3 ⟨rfl, rfl⟩
      have hn1 : ¬ ((kk + d.length : Nat) : Int) < 0 := by omega
      obtain ⟨k2, Hk2⟩ : ∃ k2, Hid (kk + d.length = k2) := ⟨_, (rfl : kk + d.length = _)⟩
      rw [Hk2.out] at hn1 HNX ⊢
      go_wp2
      go_roundw
      case rel => exact ⟨j + 1, by omega, by go_num, by rw [HNX.out], trivial⟩
      case measure => simp [intOf]; omega
    · have e : n = j := by omega
      subst e
      go_wp2
      go_ret
      exact ⟨rfl, rfl⟩
end Go.Proofs.Ytpbpnkklnbmkeaa

namespace Go.Proofs.Ytpbpnkklnbmkeaa
open Go.RowKit

theorem toLabel_any (x0 x1 x2 x3 x4 x5 : Int) (w : World) :
    Calls Try.prog 65 #[.agg #[.int .i64 x0, .int .i64 x1, .int .i64 x2, .int .i64 x3, .int .i64 x4, .int .i64 x5]] w fun e w' => e = .returned (.agg #[.int .i64 x0, .int .i64 x1, .int .i64 x2, .int .i64 x3, .int .i64 x4, .int .i64 x5]) ∧ Bel w w' := by
  have S0 : Bel w (((w.alloc (.cells #[.int .i64 x0, .int .i64 x1, .int .i64 x2, .int .i64 x3, .int .i64 x4, .int .i64 x5] 109)).alloc (.cells #[.int .i64 0, .int .i64 0, .int .i64 0, .int .i64 0, .int .i64 0, .int .i64 0] 33)).alloc (.cells #[.int .i64 x0, .int .i64 0, .int .i64 0, .int .i64 0, .int .i64 0, .int .i64 0] 33)) := bel_alloc (bel_alloc (bel_alloc (Bel.refl _) _) _) _
  have X0 : Blk (((w.alloc (.cells #[.int .i64 x0, .int .i64 x1, .int .i64 x2, .int .i64 x3, .int .i64 x4, .int .i64 x5] 109)).alloc (.cells #[.int .i64 0, .int .i64 0, .int .i64 0, .int .i64 0, .int .i64 0, .int .i64 0] 33)).alloc (.cells #[.int .i64 x0, .int .i64 0, .int .i64 0, .int .i64 0, .int .i64 0, .int .i64 0] 33)) (w.heap.size) [.int .i64 x0, .int .i64 x1, .int .i64 x2, .int .i64 x3, .int .i64 x4, .int .i64 x5] := (Blk.new w [.int .i64 x0, .int .i64 x1, .int .i64 x2, .int .i64 x3, .int .i64 x4, .int .i64 x5] 109).bel (bel_alloc (bel_alloc (Bel.refl _) _) _)
  have R0 : Blk (((w.alloc (.cells #[.int .i64 x0, .int .i64 x1, .int .i64 x2, .int .i64 x3, .int .i64 x4, .int .i64 x5] 109)).alloc (.cells #[.int .i64 0, .int .i64 0, .int .i64 0, .int .i64 0, .int .i64 0, .int .i64 0] 33)).alloc (.cells #[.int .i64 x0, .int .i64 0, .int .i64 0, .int .i64 0, .int .i64 0, .int .i64 0] 33)) (w.heap.size + 1) [.int .i64 0, .int .i64 0, .int .i64 0, .int .i64 0, .int .i64 0, .int .i64 0] := (Blk.new1 w _ [.int .i64 0, .int .i64 0, .int .i64 0, .int .i64 0, .int .i64 0, .int .i64 0] 33).bel (bel_alloc (Bel.refl _) _)
  have O0 : Blk (((w.alloc (.cells #[.int .i64 x0, .int .i64 x1, .int .i64 x2, .int .i64 x3, .int .i64 x4, .int .i64 x5] 109)).alloc (.cells #[.int .i64 0, .int .i64 0, .int .i64 0, .int .i64 0, .int .i64 0, .int .i64 0] 33)).alloc (.cells #[.int .i64 x0, .int .i64 0, .int .i64 0, .int .i64 0, .int .i64 0, .int .i64 0] 33)) (w.heap.size + 1 + 1) [.int .i64 x0, .int .i64 0, .int .i64 0, .int .i64 0, .int .i64 0, .int .i64 0] := Blk.new2 w _ _ [.int .i64 x0, .int .i64 0, .int .i64 0, .int .i64 0, .int .i64 0, .int .i64 0] 33
  have y0 : w.heap.size + 3 ≤ (((w.alloc (.cells #[.int .i64 x0, .int .i64 x1, .int .i64 x2, .int .i64 x3, .int .i64 x4, .int .i64 x5] 109)).alloc (.cells #[.int .i64 0, .int .i64 0, .int .i64 0, .int .i64 0, .int .i64 0, .int .i64 0] 33)).alloc (.cells #[.int .i64 x0, .int .i64 0, .int .i64 0, .int .i64 0, .int .i64 0, .int .i64 0] 33)).heap.size := by simp
  go_enter Try.func65, Try.ntmps65
  go_wp2_with fail
  refine (toPoint_any _ _ _).mono ?_
  rintro e w1 ⟨rfl, hb1⟩
  have V1 := bel_step S0 hb1
  have X1 := X0.bel hb1
  have R1 := R0.bel hb1
  have O1 := O0.bel hb1
  have z1 : w.heap.size + 3 ≤ w1.heap.size := Nat.le_trans y0 hb1.out.size
  have x10 : w1.cell? ⟨w.heap.size, 0, none⟩ = some (.int .i64 x0) := X1.cell 0 (by simp)
  have r10 : w1.cell? ⟨w.heap.size + 1, 0, none⟩ = some (.int .i64 0) := R1.cell 0 (by simp)
  have o10 : w1.cell? ⟨w.heap.size + 1 + 1, 0, none⟩ = some (.int .i64 x0) := O1.cell 0 (by simp)
  have x11 : w1.cell? ⟨w.heap.size, 1, none⟩ = some (.int .i64 x1) := X1.cell 1 (by simp)
  have r11 : w1.cell? ⟨w.heap.size + 1, 1, none⟩ = some (.int .i64 0) := R1.cell 1 (by simp)
  have o11 : w1.cell? ⟨w.heap.size + 1 + 1, 1, none⟩ = some (.int .i64 0) := O1.cell 1 (by simp)
  have x12 : w1.cell? ⟨w.heap.size, 2, none⟩ = some (.int .i64 x2) := X1.cell 2 (by simp)
  have r12 : w1.cell? ⟨w.heap.size + 1, 2, none⟩ = some (.int .i64 0) := R1.cell 2 (by simp)
  have o12 : w1.cell? ⟨w.heap.size + 1 + 1, 2, none⟩ = some (.int .i64 0) := O1.cell 2 (by simp)
  have x13 : w1.cell? ⟨w.heap.size, 3, none⟩ = some (.int .i64 x3) := X1.cell 3 (by simp)
  have r13 : w1.cell? ⟨w.heap.size + 1, 3, none⟩ = some (.int .i64 0) := R1.cell 3 (by simp)
  have o13 : w1.cell? ⟨w.heap.size + 1 + 1, 3, none⟩ = some (.int .i64 0) := O1.cell 3 (by simp)
  have x14 : w1.cell? ⟨w.heap.size, 4, none⟩ = some (.int .i64 x4) := X1.cell 4 (by simp)
  have r14 : w1.cell? ⟨w.heap.size + 1, 4, none⟩ = some (.int .i64 0) := R1.cell 4 (by simp)
  have o14 : w1.cell? ⟨w.heap.size + 1 + 1, 4, none⟩ = some (.int .i64 0) := O1.cell 4 (by simp)
  have x15 : w1.cell? ⟨w.heap.size, 5, none⟩ = some (.int .i64 x5) := X1.cell 5 (by simp)
  have r15 : w1.cell? ⟨w.heap.size + 1, 5, none⟩ = some (.int .i64 0) := R1.cell 5 (by simp)
  have o15 : w1.cell? ⟨w.heap.size + 1 + 1, 5, none⟩ = some (.int .i64 0) := O1.cell 5 (by simp)
  have g1 := X1.free
  have gr1 := R1.free
  have go1 := O1.free
  go_wp2
  refine bodyPost_ret (v := .agg #[.int .i64 x0, .int .i64 x1, .int .i64 x2, .int .i64 x3, .int .i64 x4, .int .i64 x5]) (by simp [results, Try.results65, go_sem, r10, r11, r12, r13, r14, r15]) rfl ?_
  refine ⟨rfl, ?_⟩
  (with_reducible repeat (first | exact V1 | refine bel_set ?_ ?_ _)) <;> simp <;> omega

theorem eqPl_same (x y : Int) (w : World) :
    Calls Try.prog 89 #[pt x y, pt x y] w fun e w' => e = .returned (.bool true) ∧ Bel w w' := by
  go_enter Try.func89, Try.ntmps89
  go_wp2
  go_ret
  exact ⟨rfl, bel_alloc (bel_alloc (Bel.refl _) _) _⟩

theorem eqLabel_same (x0 x1 x2 x3 x4 x5 : Int) (w : World) :
    Calls Try.prog 66 #[.agg #[.int .i64 x0, .int .i64 x1, .int .i64 x2, .int .i64 x3, .int .i64 x4, .int .i64 x5], .agg #[.int .i64 x0, .int .i64 x1, .int .i64 x2, .int .i64 x3, .int .i64 x4, .int .i64 x5]] w fun e w' => e = .returned (.bool true) ∧ Bel w w' := by
  have S0 : Bel w ((w.alloc (.cells #[.int .i64 x0, .int .i64 x1, .int .i64 x2, .int .i64 x3, .int .i64 x4, .int .i64 x5] 33)).alloc (.cells #[.int .i64 x0, .int .i64 x1, .int .i64 x2, .int .i64 x3, .int .i64 x4, .int .i64 x5] 33)) := bel_alloc (bel_alloc (Bel.refl _) _) _
  have X0 : Blk ((w.alloc (.cells #[.int .i64 x0, .int .i64 x1, .int .i64 x2, .int .i64 x3, .int .i64 x4, .int .i64 x5] 33)).alloc (.cells #[.int .i64 x0, .int .i64 x1, .int .i64 x2, .int .i64 x3, .int .i64 x4, .int .i64 x5] 33)) w.heap.size [.int .i64 x0, .int .i64 x1, .int .i64 x2, .int .i64 x3, .int .i64 x4, .int .i64 x5] := (Blk.new w [.int .i64 x0, .int .i64 x1, .int .i64 x2, .int .i64 x3, .int .i64 x4, .int .i64 x5] 33).bel (bel_alloc (Bel.refl _) _)
  have Y0 : Blk ((w.alloc (.cells #[.int .i64 x0, .int .i64 x1, .int .i64 x2, .int .i64 x3, .int .i64 x4, .int .i64 x5] 33)).alloc (.cells #[.int .i64 x0, .int .i64 x1, .int .i64 x2, .int .i64 x3, .int .i64 x4, .int .i64 x5] 33)) (w.heap.size + 1) [.int .i64 x0, .int .i64 x1, .int .i64 x2, .int .i64 x3, .int .i64 x4, .int .i64 x5] := Blk.new1 w _ [.int .i64 x0, .int .i64 x1, .int .i64 x2, .int .i64 x3, .int .i64 x4, .int .i64 x5] 33
  go_enter Try.func66, Try.ntmps66
  go_wp2_with fail
  refine (eqPl_same _ _ _).mono ?_
  rintro e w1 ⟨rfl, hb1⟩
  have S1 := bel_step S0 hb1
  have X1 := X0.bel hb1
  have Y1 := Y0.bel hb1
  have x10 : w1.cell? ⟨w.heap.size, 0, none⟩ = some (.int .i64 x0) := X1.cell 0 (by simp)
  have y10 : w1.cell? ⟨w.heap.size + 1, 0, none⟩ = some (.int .i64 x0) := Y1.cell 0 (by simp)
  have x11 : w1.cell? ⟨w.heap.size, 1, none⟩ = some (.int .i64 x1) := X1.cell 1 (by simp)
  have y11 : w1.cell? ⟨w.heap.size + 1, 1, none⟩ = some (.int .i64 x1) := Y1.cell 1 (by simp)
  have x12 : w1.cell? ⟨w.heap.size, 2, none⟩ = some (.int .i64 x2) := X1.cell 2 (by simp)
  have y12 : w1.cell? ⟨w.heap.size + 1, 2, none⟩ = some (.int .i64 x2) := Y1.cell 2 (by simp)
  have x13 : w1.cell? ⟨w.heap.size, 3, none⟩ = some (.int .i64 x3) := X1.cell 3 (by simp)
  have y13 : w1.cell? ⟨w.heap.size + 1, 3, none⟩ = some (.int .i64 x3) := Y1.cell 3 (by simp)
  have x14 : w1.cell? ⟨w.heap.size, 4, none⟩ = some (.int .i64 x4) := X1.cell 4 (by simp)
  have y14 : w1.cell? ⟨w.heap.size + 1, 4, none⟩ = some (.int .i64 x4) := Y1.cell 4 (by simp)
  have x15 : w1.cell? ⟨w.heap.size, 5, none⟩ = some (.int .i64 x5) := X1.cell 5 (by simp)
  have y15 : w1.cell? ⟨w.heap.size + 1, 5, none⟩ = some (.int .i64 x5) := Y1.cell 5 (by simp)
  go_wp2
  go_ret
  exact ⟨rfl, S1⟩

theorem szLabelS_any (a : Option Addr) (n c : Nat) (l : List LblD) (bs : List Nat) (left : Int) (w : World) (_hT : LblL w a l bs) (hn : l.length = n) (hm : n ≤ 9223372036854775807) (h0 : 0 ≤ left) (h1 : left ≤ 1048576) :
    Calls Try.prog 40 #[.slice a n c, .int .i64 left] w fun e w' => e = .returned (.int .i64 (szR left l.length)) ∧ Bel w w' := by
  rw [hn]
  by_cases hf : (n : Int) ≤ left
  · rw [szR_pos hf]
    go_enter Try.func40, Try.ntmps40
    go_wp2
    go_ret
    exact ⟨rfl, Bel.refl _⟩
  · rw [szR_neg hf]
    go_enter Try.func40, Try.ntmps40
    go_wp2
    go_ret
    exact ⟨rfl, Bel.refl _⟩

theorem infoLabel : (Try.prog.info? 33).map (fun i => (i.zero, i.size, i.bytes)) = some (some (.agg #[.int .i64 0, .int .i64 0, .int .i64 0, .int .i64 0, .int .i64 0, .int .i64 0]), 6, 48) := by kernel_rfl
set_option maxHeartbeats 1000000 in
theorem toLabelS_any (a : Option Addr) (n c : Nat) (l : List LblD) (bs : List Nat) (w : World) (hT : LblL w a l bs) (hn : l.length = n) (hm : n ≤ 1048576) :
    Calls Try.prog 42 #[.slice a n c] w fun e w' => ∃ B cs, e = .returned (.slice (some ⟨B, 0, none⟩) n n) ∧ LblL w' (some ⟨B, 0, none⟩) l cs ∧ Fresh w w' cs ∧ Bel w w' := by
  have Hn : Hid (l.length = n) := hn
  clear hn
  have hmk : ∀ w : World, (Instr.makeSlice 24 (.int .i64 n) (.int .i64 n)).run Try.prog w = .ok (.slice (some ⟨w.heap.size, 0, none⟩) n n) (w.alloc (.cells (madeCells #[.int .i64 0, .int .i64 0, .int .i64 0, .int .i64 0, .int .i64 0, .int .i64 0] (n * 6)) 33)) := fun w => by
    obtain ⟨i0, hi, hz0, hz1, hz2⟩ := info_parts infoLabel
    have := run_make (P := Try.prog) w 24 33 i0 (.agg #[.int .i64 0, .int .i64 0, .int .i64 0, .int .i64 0, .int .i64 0, .int .i64 0]) Try.underlying24 hi hz0 .i64 .i64 n n (by omega) (by omega) (by rw [hz2]; omega) (by omega)
    rw [hz1] at this
    exact this
  go_enter Try.func42, Try.ntmps42
  go_wp2
  go_loopw [4] (fun i wr => ∃ k : Nat, k ≤ n ∧ i = .int .i64 k ∧ (∃ f, Fill 6 LblE wr w.heap.size n k l f) ∧ Bel w wr) (fun i _ => n - (intOf i).toNat)
  case atStart => exact ⟨0, Nat.zero_le _, rfl, ⟨_, Fill.start _ _ _ _ _ _⟩, bel_alloc (Bel.refl _) _⟩
  case round =>
    obtain ⟨k, hk, rfl, ⟨g, hrow⟩, hbel⟩ := hrel
    by_cases hlt : k < n
    · have hkl : k < l.length := by rw [Hn.out]; exact hlt
      obtain ⟨b, off, f, rfl, hb, hx⟩ := (hT.bel lblE hbel).out hkl
      obtain ⟨_, in0, in1, in2, in3, in4, in5, c0, c1, c2, c3, c4, c5⟩ := hx k hkl
      clear hx hT
      go_wp2_with fail
      refine (toLabel_any l[k].id l[k].x l[k].y l[k].wd l[k].ht l[k].rk _).mono ?_
      rintro e w1 ⟨rfl, hb1⟩
      have hr1 := hrow.bel lblE hb1
      have hB1 : Bel w w1 := bel_step hbel hb1
      obtain ⟨v0, d50⟩ := hr1.there (k * 6) (by omega)
      have f0 := hr1.free (k * 6)
      obtain ⟨v1, d51⟩ := hr1.there (k * 6 + 1) (by omega)
      have f1 := hr1.free (k * 6 + 1)
      obtain ⟨v2, d52⟩ := hr1.there (k * 6 + 2) (by omega)
      have f2 := hr1.free (k * 6 + 2)
      obtain ⟨v3, d53⟩ := hr1.there (k * 6 + 3) (by omega)
      have f3 := hr1.free (k * 6 + 3)
      obtain ⟨v4, d54⟩ := hr1.there (k * 6 + 4) (by omega)
      have f4 := hr1.free (k * 6 + 4)
      obtain ⟨v5, d55⟩ := hr1.there (k * 6 + 5) (by omega)
      have f5 := hr1.free (k * 6 + 5)
      clear c0 c1 c2 c3 c4 c5 hb hbel
      go_wp2
      go_roundw
      case rel =>
        have S := setRow_in w.heap.size [.int .i64 l[k].id, .int .i64 l[k].x, .int .i64 l[k].y, .int .i64 l[k].wd, .int .i64 l[k].ht, .int .i64 l[k].rk] w1 (k * 6) (fun j hj => hr1.there _ (by simp at hj; omega))
        exact ⟨k + 1, by omega, by go_num, ⟨_, hrow.put lblE hb1 hlt Hn.out (Fresh.nil _ _) [.int .i64 l[k].id, .int .i64 l[k].x, .int .i64 l[k].y, .int .i64 l[k].wd, .int .i64 l[k].ht, .int .i64 l[k].rk] rfl ⟨rfl, in0, in1, in2, in3, in4, in5, S 0 (by simp), S 1 (by simp), S 2 (by simp), S 3 (by simp), S 4 (by simp), S 5 (by simp)⟩⟩, setRow_bel hB1 (Nat.le_refl _) [.int .i64 l[k].id, .int .i64 l[k].x, .int .i64 l[k].y, .int .i64 l[k].wd, .int .i64 l[k].ht, .int .i64 l[k].rk] (k * 6)⟩
      case measure => simp [intOf]; omega
    · have e : k = n := by omega
      subst e
      go_wp2
      go_ret
      exact ⟨_, _, rfl, hrow.sl Hn.out, hrow.fresh (Nat.le_refl _), hbel⟩

set_option maxHeartbeats 1000000 in
theorem eqLabelS_same (a a' : Option Addr) (n c c' : Nat) (l : List LblD) (bs bs' : List Nat) (w : World) (hP : LblL w a l bs) (hP' : LblL w a' l bs') (hn : l.length = n) (hm : n ≤ 1048576) :
    Calls Try.prog 44 #[.slice a n c, .slice a' n c'] w fun e w' => e = .returned (.bool true) ∧ Bel w w' := by
  have Hn : Hid (l.length = n) := hn
  clear hn
  go_enter Try.func44, Try.ntmps44
  go_wp2
  go_loopw [5] (fun i wr => ∃ k : Nat, k ≤ n ∧ i = .int .i64 k ∧ Bel w wr) (fun i _ => n - (intOf i).toNat)
  case atStart => exact ⟨0, Nat.zero_le _, rfl, Bel.refl _⟩
  case round =>
    obtain ⟨k, hk, rfl, hbel⟩ := hrel
    by_cases hlt : k < n
    · have hkl : k < l.length := by rw [Hn.out]; exact hlt
      obtain ⟨b, off, f, rfl, h2, h3⟩ := (hP.bel lblE hbel).out hkl
      obtain ⟨b', off', f', rfl, h2', h3'⟩ := (hP'.bel lblE hbel).out hkl
      obtain ⟨_, in0, in1, in2, in3, in4, in5, c0, c1, c2, c3, c4, c5⟩ := h3 k hkl
      obtain ⟨_, in0', in1', in2', in3', in4', in5', c0', c1', c2', c3', c4', c5'⟩ := h3' k hkl
      have hR : ∀ w', Bel wr w' → w'.cell? ⟨b, off + k * 6, none⟩ = some (.int .i64 l[k].id) ∧ w'.cell? ⟨b, off + k * 6 + 1, none⟩ = some (.int .i64 l[k].x) ∧ w'.cell? ⟨b, off + k * 6 + 2, none⟩ = some (.int .i64 l[k].y) ∧ w'.cell? ⟨b, off + k * 6 + 3, none⟩ = some (.int .i64 l[k].wd) ∧ w'.cell? ⟨b, off + k * 6 + 4, none⟩ = some (.int .i64 l[k].ht) ∧ w'.cell? ⟨b, off + k * 6 + 5, none⟩ = some (.int .i64 l[k].rk) ∧ w'.cell? ⟨b', off' + k * 6, none⟩ = some (.int .i64 l[k].id) ∧ w'.cell? ⟨b', off' + k * 6 + 1, none⟩ = some (.int .i64 l[k].x) ∧ w'.cell? ⟨b', off' + k * 6 + 2, none⟩ = some (.int .i64 l[k].y) ∧ w'.cell? ⟨b', off' + k * 6 + 3, none⟩ = some (.int .i64 l[k].wd) ∧ w'.cell? ⟨b', off' + k * 6 + 4, none⟩ = some (.int .i64 l[k].ht) ∧ w'.cell? ⟨b', off' + k * 6 + 5, none⟩ = some (.int .i64 l[k].rk) :=
        fun w' h => ⟨bel_cellM h h2 c0, bel_cellM h h2 c1, bel_cellM h h2 c2, bel_cellM h h2 c3, bel_cellM h h2 c4, bel_cellM h h2 c5, bel_cellM h h2' c0', bel_cellM h h2' c1', bel_cellM h h2' c2', bel_cellM h h2' c3', bel_cellM h h2' c4', bel_cellM h h2' c5'⟩
      have hlt' : (k : Int) < (n : Int) := by omega
      have g0 : Bel wr wr := Bel.refl _
      clear h3 h3' c0 c0' c1 c1' c2 c2' c3 c3' c4 c4' c5 c5' h2 h2' hP hP'
      go_wp2
      go_region_held3 (fun w' => Bel wr w') (repeat (first | exact g0 | refine Bel.drew ?_ | assumption | refine bel_then (by assumption) ?_))
        (first
          | (go_at_call 66; refine (eqLabel_same l[k].id l[k].x l[k].y l[k].wd l[k].ht l[k].rk _).mono ?_; rintro e w' ⟨rfl, hbk⟩))
      have hH : Bel wr w' := by assumption
      go_wp2
      go_roundw
      case rel => exact ⟨k + 1, by omega, by go_num, bel_step hbel hH⟩
      case measure => simp [intOf]; omega
    · have e : k = n := by omega
      subst e
      go_wp2
      go_ret
      exact ⟨rfl, hbel⟩

end Go.Proofs.Ytpbpnkklnbmkeaa

namespace Go.Proofs.Ytpbpnkklnbmkeaa
open Go.RowKit Go.Maps

theorem OnlP.frozen {bs : List Nat} {w w' : World} (h : Onl bs w w') {b o : Nat} (hb : b < w.heap.size) (hn : b ∉ bs) : w'.frozen? ⟨b, o, none⟩ = w.frozen? ⟨b, o, none⟩ := World.frozen?_of_block (a := ⟨b, o, none⟩) (h.block b hb hn)
/-- m cells of a block are there and can be written. -/
structure Thr (w : World) (b off m : Nat) : Prop where
  lt : b < w.heap.size
  there : ∀ j, j < m → ∃ v, w.cell? ⟨b, off + j, none⟩ = some v
  free : ∀ j, w.frozen? ⟨b, j, none⟩ = false
theorem Thr.set {w : World} {b off m : Nat} (h : Thr w b off m) (o : Nat) (v : Value) : Thr (w.setCell ⟨b, o, none⟩ v) b off m := by
  refine ⟨by simpa [World.setCell] using h.lt, fun j hj => ?_, fun j => by rw [World.frozen?_setCell]; exact h.free j⟩
  obtain ⟨u, hu⟩ := h.there j hj
  by_cases e : o = off + j
  · subst e; exact ⟨v, World.cell?_setCell_same _ _ _ hu⟩
  · exact ⟨u, by rw [World.cell?_setCell_other _ _ _ _ (fun e2 => e (by have := congrArg Addr.off e2; simpa using this))]; exact hu⟩
theorem Thr.bel {w w' : World} {b off m : Nat} (h : Thr w b off m) (hb : Bel w w') : Thr w' b off m :=
  ⟨bel_lt hb h.lt, fun j hj => by obtain ⟨u, hu⟩ := h.there j hj; exact ⟨u, bel_cellM hb h.lt hu⟩, fun j => by rw [hb.out.frozen (p := ⟨b, j, none⟩) h.lt]; exact h.free j⟩
set_option maxRecDepth 100000 in
set_option maxHeartbeats 1000000 in
theorem markLabelS_o (a : Option Addr) (n c : Nat) (l : List LblD) (bs : List Nat) (k : Nat) (w : World) (hT : LblL w a l bs) (hf : ∀ x ∈ bs, ∀ j, w.frozen? ⟨x, j, none⟩ = false) (hn : l.length = n) (hm : n ≤ 1048576) (h0k : 0 < k) (hk : k ≤ 1125899906842624) :
    Calls Try.prog 45 #[.slice a n c, .int .i64 k] w fun e w' => e = .returned (.int .i64 ((k + 6 * n : Nat) : Int)) ∧ Onl bs w w' := by
  by_cases h0 : n = 0
  · subst h0
    go_enter Try.func45, Try.ntmps45
    go_wp2
    go_loopw [1, 5] (fun t i wr => t = .int .i64 k ∧ i = .int .i64 0 ∧ wr = w) (fun _ _ _ => 0)
    case atStart => exact ⟨rfl, rfl, rfl⟩
    case round =>
      obtain ⟨rfl, rfl, rfl⟩ := hrel
      go_wp2
      go_ret
      exact ⟨by simp, Onl.refl _ _⟩
  · rcases hT with ⟨rfl, _⟩ | ⟨b, off, f, rfl, hb, rfl, hx⟩
    · exact absurd hn.symm h0
    · have hT0 : Thr w b off (n * 6) := ⟨hb, fun j hj => ?_, hf b (by simp)⟩
      rotate_left
      · have hi : j / 6 < l.length := by rw [hn]; omega
        have hc := hx (j / 6) hi
        have e : j = j / 6 * 6 + j % 6 := by omega
        have hr : j % 6 < 6 := by omega
        rw [e, ← Nat.add_assoc]
        obtain ⟨_, _, _, _, _, _, _, c0, c1, c2, c3, c4, c5⟩ := hc
        match hj' : j % 6, hr with
        | 0, _ => exact ⟨_, c0⟩
        | 1, _ => exact ⟨_, c1⟩
        | 2, _ => exact ⟨_, c2⟩
        | 3, _ => exact ⟨_, c3⟩
        | 4, _ => exact ⟨_, c4⟩
        | 5, _ => exact ⟨_, c5⟩
      have Hn : Hid (l.length = n) := hn
      clear hx hf hn
      go_enter Try.func45, Try.ntmps45
      go_wp2
      go_loopw [1, 5] (fun t i wr => ∃ j : Nat, j ≤ n ∧ i = .int .i64 j ∧ t = .int .i64 ((k + 6 * j : Nat) : Int) ∧ Thr wr b off (n * 6) ∧ Onl [b] w wr) (fun _ i _ => n - (intOf i).toNat)
      case atStart => exact ⟨0, Nat.zero_le _, rfl, by simp, hT0, Onl.refl _ _⟩
      case round =>
        obtain ⟨j, hj, rfl, rfl, hF, hO⟩ := hrel
        clear hT0
        by_cases hlt : j < n
        · have hlt' : (j : Int) < (n : Int) := by omega
          obtain ⟨v0, d0⟩ := hF.there (j * 6) (by omega)
          obtain ⟨v1, d1⟩ := hF.there (j * 6 + 1) (by omega)
          rw [← Nat.add_assoc] at d1
          obtain ⟨v2, d2⟩ := hF.there (j * 6 + 2) (by omega)
          rw [← Nat.add_assoc] at d2
          obtain ⟨v3, d3⟩ := hF.there (j * 6 + 3) (by omega)
          rw [← Nat.add_assoc] at d3
          obtain ⟨v4, d4⟩ := hF.there (j * 6 + 4) (by omega)
          rw [← Nat.add_assoc] at d4
          obtain ⟨v5, d5⟩ := hF.there (j * 6 + 5) (by omega)
          rw [← Nat.add_assoc] at d5
          have f0 := hF.free
          have hbl := hF.lt
          obtain ⟨K, HK⟩ : ∃ K, Hid (k + 6 * j = K) := ⟨_, (rfl : k + 6 * j = _)⟩
          rw [HK.out]
          have hK : (K : Int) ≤ 2251799813685248 := by have := HK.out; omega
          have hK0 : 0 < K := by have := HK.out; omega
          have hT2 := (((((((hF).set (off + j * 6) (.int .i64 (K : Int))).set (off + j * 6 + 1) (.int .i64 ((K : Int) + 1))).set (off + j * 6 + 2) (.int .i64 ((K : Int) + 2))).set (off + j * 6 + 3) (.int .i64 ((K : Int) + 3))).set (off + j * 6 + 4) (.int .i64 ((K : Int) + 4))).set (off + j * 6 + 5) (.int .i64 ((K : Int) + 5)))
          have hO2 := (((((((hO).set (b := b) (by simp) (off + j * 6) (.int .i64 (K : Int))).set (b := b) (by simp) (off + j * 6 + 1) (.int .i64 ((K : Int) + 1))).set (b := b) (by simp) (off + j * 6 + 2) (.int .i64 ((K : Int) + 2))).set (b := b) (by simp) (off + j * 6 + 3) (.int .i64 ((K : Int) + 3))).set (b := b) (by simp) (off + j * 6 + 4) (.int .i64 ((K : Int) + 4))).set (b := b) (by simp) (off + j * 6 + 5) (.int .i64 ((K : Int) + 5)))
          have HT2 := (show Hid _ from hT2)
          have HO2 := (show Hid _ from hO2)
          clear hF hO hT2 hO2
          go_wp2
          go_roundw
          case rel => exact ⟨j + 1, by omega, by go_num, by have := HK.out; go_num, HT2.out, HO2.out⟩
          case measure => simp [intOf]; omega
        · have e : n = j := by omega
          subst e
          have HO : Hid (Onl (b :: (List.range l.length).flatMap f) w wr) := hO.mono (fun x hx => by simp at hx; simp [hx])
          clear hO hF
          go_wp2
          go_ret
          exact ⟨rfl, HO.out⟩
end Go.Proofs.Ytpbpnkklnbmkeaa

namespace Go.Proofs.Ytpbpnkklnbmkeaa
open Go.RowKit Go.Maps

def LsE : Elem (List LblD) := fun w b o d bs => ∃ a c, d.length ≤ maxLen ∧ w.cell? ⟨b, o, none⟩ = some (.slice a d.length c) ∧ LblL w a d bs
theorem lsE : Stays 1 LsE := ⟨fun ⟨a, c, hl, h0, h2⟩ hc hA => ⟨a, c, hl, same_cell hc 0 (by decide) h0, h2.alike lblE hA⟩, fun ⟨_, _, _, _, h⟩ => Sl.lt lblE h⟩
abbrev LsL := Sl 1 LsE
/-- .. with room. -/
def LcE : Elem (List LblD) := fun w b o d bs => ∃ a c, d.length ≤ maxLen ∧ d.length ≤ c ∧ w.cell? ⟨b, o, none⟩ = some (.slice a d.length c) ∧ LblL w a d bs
theorem lcE : Stays 1 LcE := ⟨fun ⟨a, c, hl, hc', h0, h2⟩ hc hA => ⟨a, c, hl, hc', same_cell hc 0 (by decide) h0, h2.alike lblE hA⟩, fun ⟨_, _, _, _, _, h⟩ => Sl.lt lblE h⟩
abbrev LcL := Sl 1 LcE
theorem LcL.rows {w : World} {a : Option Addr} {l : List (List LblD)} {bs : List Nat} (h : LcL w a l bs) : LsL w a l bs := by
  rcases h with h | ⟨b, off, f, ha, hb, e, hx⟩
  · exact .inl h
  · exact .inr ⟨b, off, f, ha, hb, e, fun i hi => (hx i hi).elim fun a ⟨c, h1, _, h3, h4⟩ => ⟨a, c, h1, h3, h4⟩⟩

set_option maxRecDepth 100000 in
set_option maxHeartbeats 1000000 in
theorem eqLabelSS_any (a a' : Option Addr) (n c c' : Nat) (L : List (List LblD)) (bs bs' : List Nat) (w : World) (hP : LsL w a L bs) (hP' : LsL w a' L bs') (hn : L.length = n) (hm : n ≤ 1048576) (hs : ∀ d ∈ L, d.length ≤ 1048576) :
    Calls Try.prog 22 #[.slice a n c, .slice a' n c'] w fun e w' => e = .returned (.bool true) ∧ Bel w w' := by
  have Hn : Hid (L.length = n) := hn
  have Hs : Hid (∀ d ∈ L, d.length ≤ 1048576) := hs
  clear hn hs
  go_enter Try.func22, Try.ntmps22
  go_wp2
  go_loopw [5] (fun i wr => ∃ k : Nat, k ≤ n ∧ i = .int .i64 k ∧ Bel w wr) (fun i _ => n - (intOf i).toNat)
  case atStart => exact ⟨0, Nat.zero_le _, rfl, Bel.refl _⟩
  case round =>
    obtain ⟨k, hk, rfl, hbel⟩ := hrel
    by_cases hlt : k < n
    · have hkl : k < L.length := by rw [Hn.out]; exact hlt
      obtain ⟨b, off, f, rfl, h2, h3⟩ := (hP.bel lsE hbel).out hkl
      obtain ⟨b', off', f', rfl, h2', h3'⟩ := (hP'.bel lsE hbel).out hkl
      obtain ⟨a0, k0, m0, c0, t0⟩ := h3 k hkl
      obtain ⟨a0', k0', m0', c0', t0'⟩ := h3' k hkl
      rw [Nat.mul_one] at c0 c0'
      have hsk := Hs.out L[k] (List.getElem_mem hkl)
      obtain ⟨d, Hd⟩ : ∃ d, Hid (L[k] = d) := ⟨_, (rfl : L[k] = _)⟩
      rw [Hd.out] at c0 c0' t0 t0' hsk
      obtain ⟨q, Hq⟩ : ∃ q, Hid (d.length = q) := ⟨_, (rfl : d.length = _)⟩
      rw [Hq.out] at c0 c0' hsk
      have hR : ∀ w', Bel wr w' → w'.cell? ⟨b, off + k, none⟩ = some (.slice a0 q k0) ∧ w'.cell? ⟨b', off' + k, none⟩ = some (.slice a0' q k0') := fun w' h => ⟨bel_cellM h h2 c0, bel_cellM h h2' c0'⟩
      have T0 : ∀ w', Bel wr w' → LblL w' a0 d (f k) := fun w' h => t0.bel lblE h
      have T0' : ∀ w', Bel wr w' → LblL w' a0' d (f' k) := fun w' h => t0'.bel lblE h
      have hlt' : (k : Int) < (n : Int) := by omega
      have g0 : Bel wr wr := Bel.refl _
      clear h3 h3' c0 c0' h2 h2' hP hP' t0 t0'
      go_wp2
      go_region_held3 (fun w' => Bel wr w') (repeat (first | exact g0 | refine Bel.drew ?_ | assumption | refine bel_then (by assumption) ?_))
        (first
          | (go_at_call 44; refine (eqLabelS_same a0 a0' q k0 k0' d (f k) (f' k) _ (T0 _ (by assumption)) (T0' _ (by assumption)) Hq.out hsk).mono ?_; rintro e w' ⟨rfl, hbk⟩))
      have hH : Bel wr w' := by assumption
      go_wp2
      go_roundw
      case rel => exact ⟨k + 1, by omega, by go_num, bel_step hbel hH⟩
      case measure => simp [intOf]; omega
    · have e : k = n := by omega
      subst e
      go_wp2
      go_ret
      exact ⟨rfl, hbel⟩


theorem infoLbs : (Try.prog.info? 24).map (fun i => (i.zero, i.size, i.bytes)) = some (some (.slice none 0 0), 1, 24) := by kernel_rfl
set_option maxRecDepth 100000 in
set_option maxHeartbeats 1000000 in
theorem toLabelSS_any (a : Option Addr) (n c : Nat) (l : List (List LblD)) (bs : List Nat) (w : World) (hT : LsL w a l bs) (hn : l.length = n) (hm : n ≤ 1048576) (hs : ∀ d ∈ l, d.length ≤ 1048576) :
    Calls Try.prog 20 #[.slice a n c] w fun e w' => ∃ B cs, e = .returned (.slice (some ⟨B, 0, none⟩) n n) ∧ LcL w' (some ⟨B, 0, none⟩) l cs ∧ Fresh w w' cs ∧ Bel w w' := by
  have Hn : Hid (l.length = n) := hn
  have Hs : Hid (∀ d ∈ l, d.length ≤ 1048576) := hs
  clear hn hs
  have hmk : ∀ w : World, (Instr.makeSlice 41 (.int .i64 n) (.int .i64 n)).run Try.prog w = .ok (.slice (some ⟨w.heap.size, 0, none⟩) n n) (w.alloc (.cells (madeCells #[.slice none 0 0] (n * 1)) 24)) := fun w => by
    obtain ⟨i0, hi, hz0, hz1, hz2⟩ := info_parts infoLbs
    have := run_make (P := Try.prog) w 41 24 i0 (.slice none 0 0) Try.underlying41 hi hz0 .i64 .i64 n n (by omega) (by omega) (by rw [hz2]; omega) (by omega)
    rw [hz1] at this
    exact this
  go_enter Try.func20, Try.ntmps20
  go_wp2
  go_loopw [4] (fun i wr => ∃ k : Nat, k ≤ n ∧ i = .int .i64 k ∧ (∃ f, Fill 1 LcE wr w.heap.size n k l f) ∧ Bel w wr) (fun i _ => n - (intOf i).toNat)
  case atStart =>
    have h0 := Fill.start (E := LcE) w #[.slice none 0 0] 1 n 24 l
    rw [Nat.mul_one] at h0
    exact ⟨0, Nat.zero_le _, rfl, ⟨_, h0⟩, bel_alloc (Bel.refl _) _⟩
  case round =>
    obtain ⟨k, hk, rfl, ⟨g, hrow⟩, hbel⟩ := hrel
    by_cases hlt : k < n
    · have hkl : k < l.length := by rw [Hn.out]; exact hlt
      have hlt' : (k : Int) < (n : Int) := by omega
      obtain ⟨b, off, f, rfl, hb, hx⟩ := (hT.bel lsE hbel).out hkl
      obtain ⟨a1, k1, m1, c1, t1⟩ := hx k hkl
      rw [Nat.mul_one] at c1
      have hsk := Hs.out l[k] (List.getElem_mem hkl)
      clear hx hT
      go_wp2_with fail
      refine (toLabelS_any a1 _ k1 l[k] (f k) _ t1 rfl hsk).mono ?_
      rintro e w1 ⟨D1, d1, rfl, u1, fr, hb1⟩
      have hr1 := hrow.bel lcE hb1
      have hB1 : Bel w w1 := bel_step hbel hb1
      obtain ⟨v0, d50⟩ := hr1.there k (by omega)
      have f0 := hr1.free k
      clear c1 hb hbel
      go_wp2
      go_roundw
      case rel =>
        have S := setRow_in w.heap.size [.slice (some ⟨D1, 0, none⟩) l[k].length l[k].length] w1 (k * 1) (fun j hj => hr1.there _ (by simp at hj; omega))
        have HE1 : LblL (setRow w1 w.heap.size (k * 1) [.slice (some ⟨D1, 0, none⟩) l[k].length l[k].length]) (some ⟨D1, 0, none⟩) l[k] d1 := u1.alike lblE (setRow_alike _ (fun x hx => (fr.new x hx).2) (fun hx => by have h1 := (fr.new _ hx).1; have h2 := hrow.lt; omega))
        have HP := hrow.put lcE hb1 hlt Hn.out fr [.slice (some ⟨D1, 0, none⟩) l[k].length l[k].length] rfl ⟨_, _, m1, Nat.le_refl _, S 0 (by simp), HE1⟩
        have HB := setRow_bel hB1 (Nat.le_refl _) [.slice (some ⟨D1, 0, none⟩) l[k].length l[k].length] (k * 1)
        rw [Nat.mul_one] at HP HB
        exact ⟨k + 1, by omega, by go_num, ⟨_, HP⟩, HB⟩
      case measure => simp [intOf]; omega
    · have e : k = n := by omega
      subst e
      go_wp2
      go_ret
      exact ⟨_, _, rfl, hrow.sl Hn.out, hrow.fresh (Nat.le_refl _), hbel⟩

set_option maxRecDepth 100000 in
set_option maxHeartbeats 1000000 in
theorem szLabelSS_any (a : Option Addr) (n c : Nat) (l : List (List LblD)) (bs : List Nat) (w : World) (hT : LsL w a l bs) (hn : l.length = n) (hm : n ≤ 9223372036854775807) :
    Calls Try.prog 18 #[.slice a n c, .int .i64 1048576] w fun e w' => ∃ r : Int, e = .returned (.int .i64 r) ∧ Hid (0 ≤ r → n ≤ 1048576 ∧ ∀ d ∈ l, d.length ≤ 1048576) ∧ Bel w w' := by
  have Hn : Hid (l.length = n) := hn
  clear hn
  by_cases hf : (n : Int) ≤ 1048576
  · go_enter Try.func18, Try.ntmps18
    go_wp2
    go_loopw [1, 5] (fun t i wr => ∃ (k : Nat) (r : Int), k ≤ n ∧ i = .int .i64 k ∧ t = .int .i64 r ∧ 0 ≤ r ∧ r ≤ 1048576 ∧ Hid (∀ j (h : j < l.length), j < k → l[j].length ≤ 1048576) ∧ Bel w wr) (fun _ i _ => n - (intOf i).toNat)
    case atStart => exact ⟨0, 1048576 - n, Nat.zero_le _, rfl, by go_num, by omega, by omega, fun j h hj => absurd hj (Nat.not_lt_zero _), Bel.refl _⟩
    case round =>
      obtain ⟨k, r, hk, rfl, rfl, r0, r1, HA, hbel⟩ := hrel
      by_cases hlt : k < n
      · have hkl : k < l.length := by rw [Hn.out]; exact hlt
        have hlt' : (k : Int) < (n : Int) := by omega
        obtain ⟨b, off, f, rfl, hb, hx⟩ := (hT.bel lsE hbel).out hkl
        obtain ⟨a1, k1, m1, c1, t1⟩ := hx k hkl
        rw [Nat.mul_one] at c1
        unfold maxLen at m1
        clear hx
        go_wp2_with fail
        refine (szLabelS_any a1 _ k1 l[k] (f k) r _ t1 rfl m1 r0 r1).mono ?_
        rintro e w1 ⟨rfl, hb1⟩
        have hB1 := bel_step hbel hb1
        by_cases hq : (l[k].length : Int) ≤ r
        · have HZ : Hid (szR r l[k].length = r - l[k].length) := szR_pos hq
          have HA' : Hid (∀ j (h : j < l.length), j < k + 1 → l[j].length ≤ 1048576) := fun j h hj => by
            by_cases e : j = k
            · subst e; omega
            · exact HA.out j h (by omega)
          rw [HZ.out]
          have h0 : ¬ r - (l[k].length : Int) < 0 := by omega
          clear hb1 t1 c1 hb hbel
          go_wp2
          go_roundw
          case rel => exact ⟨k + 1, _, by omega, by go_num, rfl, by omega, by omega, HA'.out, hB1⟩
          case measure => simp [intOf]; omega
        · have HZ : Hid (szR r l[k].length = -1) := szR_neg hq
          rw [HZ.out]
          clear hb1 t1 c1 hb hbel
          go_wp2
          go_ret
          exact ⟨_, rfl, fun h => absurd h (by omega), hB1⟩
      · obtain rfl : k = n := by omega
        go_wp2
        go_ret
        exact ⟨r, rfl, fun _ => ⟨by omega, fun d hd => by
          obtain ⟨i, hi, rfl⟩ := List.mem_iff_getElem.1 hd
          exact HA.out i hi (by rw [← Hn.out]; exact hi)⟩, hbel⟩
  · go_enter Try.func18, Try.ntmps18
    go_wp2
    go_ret
    exact ⟨-1, rfl, fun h => absurd h (by omega), Bel.refl _⟩

set_option maxRecDepth 100000 in
set_option maxHeartbeats 2000000 in
theorem markLabelSS_o (a : Option Addr) (n c : Nat) (l : List (List LblD)) (bs : List Nat) (w : World) (hT : LsL w a l bs) (hf : ∀ x ∈ bs, ∀ j, w.frozen? ⟨x, j, none⟩ = false) (hd : bs.Nodup) (hn : l.length = n) (hm : n ≤ 1048576) (hs : ∀ d ∈ l, d.length ≤ 1048576) :
    Calls Try.prog 23 #[.slice a n c, .int .i64 1] w fun e w' => ∃ m : Nat, e = .returned (.int .i64 (m : Int)) ∧ m ≤ 1125899906842624 ∧ Onl bs w w' := by
  by_cases h0 : n = 0
  · subst h0
    go_enter Try.func23, Try.ntmps23
    go_wp2
    go_loopw [1, 5] (fun t i wr => t = .int .i64 1 ∧ i = .int .i64 0 ∧ wr = w) (fun _ _ _ => 0)
    case atStart => exact ⟨rfl, rfl, rfl⟩
    case round =>
      obtain ⟨rfl, rfl, rfl⟩ := hrel
      go_wp2
      go_ret
      exact ⟨1, rfl, by omega, Onl.refl _ _⟩
  · rcases hT with ⟨rfl, _⟩ | ⟨b, off, f, rfl, hb, rfl, hx⟩
    · exact absurd hn.symm h0
    · rw [hn] at hd hf ⊢
      obtain ⟨hdb, hdf⟩ := List.nodup_cons.1 hd
      have Hn : Hid (l.length = n) := hn
      have HS : Hid (∀ d ∈ l, d.length ≤ 1048576) := hs
      have HDF : Hid ((List.range n).flatMap f).Nodup := hdf
      have HDB : Hid (∀ i, i < n → b ∉ f i) := fun i hi h => hdb (List.mem_flatMap.2 ⟨i, List.mem_range.2 hi, h⟩)
      have hx0 : Hid (∀ i (h : i < l.length), 0 ≤ i → LsE w b (off + i * 1) l[i] (f i)) := fun i h _ => hx i h
      clear hn hx hd hdb hdf hs
      go_enter Try.func23, Try.ntmps23
      go_wp2
      go_loopw [1, 5] (fun t i wr => ∃ (j m : Nat), j ≤ n ∧ i = .int .i64 j ∧ t = .int .i64 (m : Int) ∧ 0 < m ∧ m ≤ 1 + j * 6291456 ∧ Hid (∀ i (h : i < l.length), j ≤ i → LsE wr b (off + i * 1) l[i] (f i)) ∧ Hid (∀ x ∈ b :: (List.range n).flatMap f, ∀ o, w.frozen? ⟨x, o, none⟩ = false) ∧ Hid (∀ i (h : i < l.length), j ≤ i → ∀ x ∈ f i, ∀ o, wr.frozen? ⟨x, o, none⟩ = false) ∧ Onl (b :: (List.range n).flatMap f) w wr) (fun _ i _ => n - (intOf i).toNat)
      case atStart => exact ⟨0, 1, Nat.zero_le _, rfl, rfl, by omega, by omega, hx0, hf, (fun i h _ x hx o => hf x (List.mem_cons_of_mem _ (List.mem_flatMap.2 ⟨i, List.mem_range.2 (by rw [← Hn.out]; exact h), hx⟩)) o), Onl.refl _ _⟩
      case round =>
        obtain ⟨j, m, hj, rfl, rfl, m0, m1, HX, HF0, HFR, hO⟩ := hrel
        have hbr := Nat.lt_of_lt_of_le hb hO.size
        by_cases hlt : j < n
        · have hjl : j < l.length := by rw [Hn.out]; exact hlt
          obtain ⟨pa, pc, ml1, c1, t1⟩ := HX.out j hjl (Nat.le_refl _)
          rw [Nat.mul_one] at c1
          have htl := HS.out l[j] (List.getElem_mem hjl)
          have hbj := HDB.out j hlt
          have hsub : ∀ x ∈ f j, x ∈ b :: (List.range n).flatMap f := fun x hx => List.mem_cons_of_mem _ (List.mem_flatMap.2 ⟨j, List.mem_range.2 hlt, hx⟩)
          have hlt' : (j : Int) < (n : Int) := by omega
          have hk2 : m ≤ 1125899900000000 := by omega
          have HT1 : Hid (LblL wr pa l[j] (f j)) := t1
          have HF1 : Hid (∀ x ∈ f j, ∀ o, wr.frozen? ⟨x, o, none⟩ = false) := HFR.out j hjl (Nat.le_refl _)
          obtain ⟨d, Hd⟩ : ∃ d, Hid (l[j] = d) := ⟨_, (rfl : l[j] = _)⟩
          rw [Hd.out] at htl c1 HT1
          clear t1 hx0
          go_wp2_with fail
          refine (markLabelS_o pa _ pc d (f j) m _ HT1.out HF1.out rfl htl m0 (by omega)).mono ?_
          rintro e w4 ⟨rfl, O4⟩
          have HX4 : Hid (∀ i (h : i < l.length), j + 1 ≤ i → LsE w4 b (off + i * 1) l[i] (f i)) := fun i h hi => by
            have hE := HX.out i h (by omega)
            have hne : ∀ x ∈ f i, x ∉ f j := fun x hx => nd_ne HDF.out (by rw [← Hn.out]; exact h) hlt (by omega) x hx
            exact lsE.alike hE (fun o _ => O4.cell hbr hbj) (O4.alike (lsE.lt hE) hne)
          have HF4 : Hid (∀ i (h : i < l.length), j + 1 ≤ i → ∀ x ∈ f i, ∀ o, w4.frozen? ⟨x, o, none⟩ = false) := fun i h hi x hx o => by
            have hE := HX.out i h (by omega)
            rw [O4.frozen (lsE.lt hE x hx) (nd_ne HDF.out (by rw [← Hn.out]; exact h) hlt (by omega) x hx)]
            exact HFR.out i h (by omega) x hx o
          have hO5 : Onl (b :: (List.range n).flatMap f) w w4 := hO.trans (O4.mono hsub)
          clear hO O4 HT1 HF1 HX HFR c1
          go_wp2
          go_roundw
          case rel => exact ⟨j + 1, m + 6 * d.length, by omega, by go_num, by go_num, by omega, by omega, HX4, HF0, HF4, hO5⟩
          case measure => simp [intOf]; omega
        · have e : n = j := by omega
          subst e
          go_wp2
          go_ret
          exact ⟨m, rfl, by omega, hO⟩
end Go.Proofs.Ytpbpnkklnbmkeaa
