/-
  Rings, marked, and their marks held: contracts.
-/
import Derived.Test.YtapipkcdnmehlaaMarkN
import Derived.Test.YtapipkcdnmehlaaRngD
import Derived.Test.YtapipkcdnmehlaaPtsD
namespace Go.Proofs.Ytapipkcdnmehlaa
open Go.RowKit Go.Maps

def mkRing (k : Nat) (d : RingD) : RingD := ⟨mkPoints k d.row, ((k + 2 * d.row.length : Nat) : Int) % 3 == 0⟩
/-- With which number the marks of element i begin. -/
def stRing (k : Nat) (l : List RingD) : Nat → Nat
  | 0 => k
  | i + 1 => stRing k l i + (2 * (l.getD i ⟨[], false⟩).row.length + 1)
def mkRings (k : Nat) (l : List RingD) : List RingD := (List.range l.length).map fun i => mkRing (stRing k l i) (l.getD i ⟨[], false⟩)
theorem mkRings_len (k : Nat) (l : List RingD) : (mkRings k l).length = l.length := by simp [mkRings]
theorem stRing_bd {k : Nat} {l : List RingD} (hs : ∀ i (h : i < l.length), l[i].row.length ≤ 1048576) : ∀ j, j ≤ l.length → k ≤ stRing k l j ∧ stRing k l j ≤ k + j * 2097153
  | 0, _ => by simp [stRing]
  | j + 1, hj => by
    have h1 := stRing_bd (k := k) hs j (by omega)
    have h2 := hs j (by omega)
    simp only [stRing, getD_at ⟨[], false⟩ (show j < l.length by omega)]
    omega

set_option maxRecDepth 100000 in
set_option maxHeartbeats 2000000 in
theorem markRingS_any (a : Option Addr) (n c : Nat) (l : List RingD) (bs : List Nat) (k : Nat) (w : World) (hT : RingL w a l bs) (hf : ∀ x ∈ bs, ∀ j, w.frozen? ⟨x, j, none⟩ = false) (hd : bs.Nodup) (hn : l.length = n) (hm : n ≤ 1048576) (hs : ∀ i (h : i < l.length), l[i].row.length ≤ 1048576) (h0k : 0 < k) (hk : k ≤ 70368744177664) :
    Calls Try.prog 20 #[.slice a n c, .int .i64 k] w fun e w' => e = .returned (.int .i64 (stRing k l n : Nat)) ∧ RingL w' a (mkRings k l) bs ∧ (∀ x ∈ bs, ∀ j, w'.frozen? ⟨x, j, none⟩ = false) ∧ Onl bs w w' := by
  by_cases h0 : n = 0
  · subst h0
    obtain rfl : l = [] := List.length_eq_zero_iff.1 hn
    have HT : Hid (RingL w a (mkRings k []) bs) := hT
    clear hT
    go_enter Try.func20, Try.ntmps20
    go_wp2
    go_loopw [1, 5] (fun t i wr => t = .int .i64 k ∧ i = .int .i64 0 ∧ wr = w) (fun _ _ _ => 0)
    case atStart => exact ⟨rfl, rfl, rfl⟩
    case round =>
      obtain ⟨rfl, rfl, rfl⟩ := hrel
      go_wp2
      go_ret
      exact ⟨rfl, HT.out, hf, Onl.refl _ _⟩
  · rcases hT with ⟨rfl, _⟩ | ⟨b, off, f, rfl, hb, rfl, hx⟩
    · exact absurd hn.symm h0
    · have hfam : Fam 2 RingE w b off n (fun i => l.getD i ⟨[], false⟩) f := fun i hi => by
        show RingE w b (off + i * 2) (l.getD i ⟨[], false⟩) (f i)
        rw [getD_at ⟨[], false⟩ (show i < l.length by omega)]
        exact hx i (by omega)
      rw [hn] at hd hf ⊢
      obtain ⟨hdb, hdf⟩ := List.nodup_cons.1 hd
      have Hn : Hid (l.length = n) := hn
      have HS : Hid (∀ i (h : i < l.length), l[i].row.length ≤ 1048576) := hs
      have HB : Hid (∀ j, j ≤ l.length → k ≤ stRing k l j ∧ stRing k l j ≤ k + j * 2097153) := stRing_bd hs
      have HDF : Hid ((List.range n).flatMap f).Nodup := hdf
      have HDB : Hid (∀ i, i < n → b ∉ f i) := fun i hi h => hdb (List.mem_flatMap.2 ⟨i, List.mem_range.2 hi, h⟩)
      clear hn hx hd hdb hdf hs
      go_enter Try.func20, Try.ntmps20
      go_wp2
      go_loopw [1, 5] (fun t i wr => ∃ j : Nat, j ≤ n ∧ i = .int .i64 j ∧ t = .int .i64 (stRing k l j : Nat) ∧ Fam 2 RingE wr b off n (upto j (fun i => mkRing (stRing k l i) (l.getD i ⟨[], false⟩)) (fun i => l.getD i ⟨[], false⟩)) f ∧ Hid (∀ x ∈ b :: (List.range n).flatMap f, ∀ o, wr.frozen? ⟨x, o, none⟩ = false) ∧ Onl (b :: (List.range n).flatMap f) w wr) (fun _ i _ => n - (intOf i).toNat)
      case atStart => exact ⟨0, Nat.zero_le _, rfl, rfl, by rw [upto_zero]; exact hfam, hf, Onl.refl _ _⟩
      case round =>
        obtain ⟨j, hj, rfl, rfl, hF, HFR, hO⟩ := hrel
        have hbr := Nat.lt_of_lt_of_le hb hO.size
        by_cases hlt : j < n
        · have hjl : j < l.length := by rw [Hn.out]; exact hlt
          have hj0 := hF j hlt
          have eD : upto j (fun i => mkRing (stRing k l i) (l.getD i ⟨[], false⟩)) (fun i => l.getD i ⟨[], false⟩) j = l.getD j ⟨[], false⟩ := by simp [upto]
          rw [eD] at hj0
          obtain ⟨dd, Hdd⟩ : ∃ dd, Hid (dd = l.getD j ⟨[], false⟩) := ⟨_, (rfl : l.getD j ⟨[], false⟩ = _)⟩
          rw [← Hdd.out] at hj0
          obtain ⟨ta, tc, ml, c0, c1, t0⟩ := hj0
          have htl : dd.row.length ≤ 1048576 := by rw [Hdd.out, getD_at _ hjl]; exact HS.out j hjl
          obtain ⟨kk, HK⟩ : ∃ kk, Hid (stRing k l j = kk) := ⟨_, (rfl : stRing k l j = _)⟩
          have hkk := HB.out j (by rw [Hn.out]; exact hj)
          rw [HK.out] at hkk ⊢
          obtain ⟨k2, HK2⟩ : ∃ k2, Hid (kk + 2 * dd.row.length = k2) := ⟨_, (rfl : kk + 2 * dd.row.length = _)⟩
          have hk22 : k2 ≤ 1125899906842624 := by rw [← HK2.out]; omega
          have HNX : Hid (stRing k l (j + 1) = k2 + 1) := by
            show stRing k l j + (2 * (l.getD j ⟨[], false⟩).row.length + 1) = _
            rw [HK.out, ← Hdd.out, ← HK2.out]; omega
          have hlt' : (j : Int) < (n : Int) := by omega
          have hk1 : 0 < kk := by omega
          have hk2 : kk ≤ 1125899900000000 := by omega
          have F0 : ∀ x ∈ f j, ∀ o, wr.frozen? ⟨x, o, none⟩ = false := fun x hx o => HFR.out x (List.mem_cons_of_mem _ (List.mem_flatMap.2 ⟨j, List.mem_range.2 hlt, hx⟩)) o
          have hFl : ∀ i, i < n → ∀ x ∈ f i, x < wr.heap.size := fun i hi => ringE.lt (hF i hi)
          have HFam : Hid (Fam 2 RingE wr b off n (upto j (fun i => mkRing (stRing k l i) (l.getD i ⟨[], false⟩)) (fun i => l.getD i ⟨[], false⟩)) f) := hF
          clear hF
          go_wp2_with fail
          refine (markPointS_any ta _ tc dd.row (f j) kk _ t0 F0 rfl htl (by omega) (by omega)).mono ?_
          rintro e w4 ⟨rfl, T4, F4, O4⟩
          rw [HK2.out]
          have hc4 : ∀ o, w4.cell? ⟨b, o, none⟩ = wr.cell? ⟨b, o, none⟩ := fun o => O4.cell hbr (HDB.out j hlt)
          have d0 : w4.cell? ⟨b, off + j * 2, none⟩ = some (.slice ta dd.row.length tc) := by rw [hc4]; exact c0
          have d1 : w4.cell? ⟨b, off + j * 2 + 1, none⟩ = some (.bool dd.inner) := by rw [hc4]; exact c1
          have hb4 : b < w4.heap.size := Nat.lt_of_lt_of_le hbr O4.size
          have z1 : w4.frozen? ⟨b, off + j * 2 + 1, none⟩ = false := by rw [O4.frozen hbr (HDB.out j hlt)]; exact HFR.out b (by simp) _
          obtain ⟨S5, HS5⟩ : ∃ S5, Hid (S5 = w4.setCell ⟨b, off + j * 2 + 1, none⟩ (.bool ((k2 : Int) % 3 == 0))) := ⟨_, (rfl : w4.setCell ⟨b, off + j * 2 + 1, none⟩ (.bool ((k2 : Int) % 3 == 0)) = _)⟩
          have hSa : ∀ cs : List Nat, (∀ x ∈ cs, x < w4.heap.size) → b ∉ cs → Alike w4 S5 cs := fun cs h1 h2 => by rw [HS5.out]; exact setRow_alike [.bool ((k2 : Int) % 3 == 0)] (o := off + j * 2 + 1) h1 h2
          have hl4 : ∀ x ∈ f j, x < w4.heap.size := fun x hx => Nat.lt_of_lt_of_le (hFl j hlt x hx) O4.size
          have T5 := T4.alike ptE (hSa _ hl4 (HDB.out j hlt))
          have HF5 : Hid (Fam 2 RingE S5 b off n (upto (j + 1) (fun i => mkRing (stRing k l i) (l.getD i ⟨[], false⟩)) (fun i => l.getD i ⟨[], false⟩)) f) := by
            have := Fam.step ringE HFam.out (w' := S5) (j := j) (mkRing kk dd) (fun o ho => by rw [HS5.out, World.cell?_setCell_other _ _ _ _ (fun e => by have := congrArg Addr.off e; simp at this; omega)]; exact hc4 o)
              (fun i hi hne => (O4.alike (fun x hx => hFl i hi x hx) (nd_ne HDF.out hi hlt hne)).trans (hSa _ (fun x hx => Nat.lt_of_lt_of_le (hFl i hi x hx) O4.size) (HDB.out i hi)))
              ⟨ta, tc, by show (mkPoints kk dd.row).length ≤ _; rw [mkPoints_len]; exact ml, by
                  show _ = some (Value.slice ta (mkPoints kk dd.row).length tc)
                  rw [mkPoints_len, HS5.out, World.cell?_setCell_other _ _ _ _ (fun e => by have := congrArg Addr.off e; simp at this)]
                  exact d0, by
                  show _ = some (Value.bool (((kk + 2 * dd.row.length : Nat) : Int) % 3 == 0))
                  rw [HK2.out, HS5.out]
                  exact World.cell?_setCell_same _ _ _ d1, T5⟩
            rw [show mkRing kk dd = (fun i => mkRing (stRing k l i) (l.getD i ⟨[], false⟩)) j by rw [Hdd.out, ← HK.out], upto_step j (fun i => mkRing (stRing k l i) (l.getD i ⟨[], false⟩)) (fun i => l.getD i ⟨[], false⟩)] at this
            exact this
          have hO5 : Onl (b :: (List.range n).flatMap f) w S5 := by
            rw [HS5.out]
            exact (hO.trans (O4.mono (fun x hx => List.mem_cons_of_mem _ (List.mem_flatMap.2 ⟨j, List.mem_range.2 hlt, hx⟩)))).set (b := b) (by simp) _ _
          have HR5 : Hid (∀ x ∈ b :: (List.range n).flatMap f, ∀ o, S5.frozen? ⟨x, o, none⟩ = false) := fun x hx o => by
            rw [HS5.out, World.frozen?_setCell]
            by_cases hxj : x ∈ f j
            · exact F4 x hxj o
            · have hxs : x < wr.heap.size := by
                rcases List.mem_cons.1 hx with rfl | hx
                · exact hbr
                · obtain ⟨i, hi, hx⟩ := List.mem_flatMap.1 hx
                  exact hFl i (List.mem_range.1 hi) x hx
              rw [O4.frozen hxs hxj]
              exact HFR.out x hx o
          clear hO O4 F4 T4 T5 F0 hc4 hSa HFam hFl c0 c1 t0 hl4
          go_wp2
          rw [← HS5.out]
          go_roundw
          case rel => exact ⟨j + 1, by omega, by go_num, by rw [HNX.out]; go_num, HF5.out, HR5, hO5⟩
          case measure => simp [intOf]; omega
        · have e : n = j := by omega
          subst e
          have HT : Hid (RingL wr (some ⟨b, off, none⟩) (mkRings k l) (b :: (List.range n).flatMap f)) :=
            Sl.fam hF (Nat.lt_of_lt_of_le hb hO.size) (by rw [mkRings_len]; exact Hn.out) (fun i hi => by
              rw [mkRings_len, Hn.out] at hi
              simp [upto, mkRings, hi])
          clear hF
          go_wp2
          go_ret
          exact ⟨rfl, HT.out, HFR.out, hO⟩

set_option maxRecDepth 100000 in
set_option maxHeartbeats 2000000 in
theorem heldRingS_any (a : Option Addr) (n c : Nat) (l : List RingD) (bs : List Nat) (k : Nat) (w : World) (hT : RingL w a (mkRings k l) bs) (hn : l.length = n) (hm : n ≤ 1048576) (hs : ∀ i (h : i < l.length), l[i].row.length ≤ 1048576) (h0k : 0 < k) (hk : k ≤ 70368744177664) :
    Calls Try.prog 21 #[.slice a n c, .int .i64 k] w fun e w' => e = .returned (.int .i64 (stRing k l n : Nat)) ∧ Bel w w' := by
  have Hn : Hid (l.length = n) := hn
  have HS : Hid (∀ i (h : i < l.length), l[i].row.length ≤ 1048576) := hs
  have HB : Hid (∀ j, j ≤ l.length → k ≤ stRing k l j ∧ stRing k l j ≤ k + j * 2097153) := stRing_bd hs
  clear hn hs
  go_enter Try.func21, Try.ntmps21
  go_wp2
  go_loopw [1, 5] (fun t i wr => ∃ j : Nat, j ≤ n ∧ i = .int .i64 j ∧ t = .int .i64 (stRing k l j : Nat) ∧ Bel w wr) (fun _ i _ => n - (intOf i).toNat)
  case atStart => exact ⟨0, Nat.zero_le _, rfl, rfl, Bel.refl _⟩
  case round =>
    obtain ⟨j, hj, rfl, rfl, hbel⟩ := hrel
    by_cases hlt : j < n
    · have hjl : j < (mkRings k l).length := by rw [mkRings_len, Hn.out]; exact hlt
      have hjd : j < l.length := by rw [Hn.out]; exact hlt
      obtain ⟨b, off, f, rfl, hb, hx⟩ := (hT.bel ringE hbel).out hjl
      have hj0 := hx j hjl
      rw [show (mkRings k l)[j] = mkRing (stRing k l j) l[j] by simp [mkRings, hjd]] at hj0
      have htl := HS.out j hjd
      have hkk := HB.out j (by rw [Hn.out]; exact hj)
      obtain ⟨d, Hd⟩ : ∃ d, Hid (d = l[j]) := ⟨_, (rfl : l[j] = _)⟩
      obtain ⟨kk, HK⟩ : ∃ kk, Hid (stRing k l j = kk) := ⟨_, (rfl : stRing k l j = _)⟩
      have HNX1 : stRing k l (j + 1) = kk + 2 * d.row.length + 1 := by
        show stRing k l j + (2 * (l.getD j ⟨[], false⟩).row.length + 1) = _
        rw [getD_at _ hjd, HK.out, Hd.out]; omega
      rw [HK.out, ← Hd.out] at hj0
      rw [HK.out] at hkk ⊢
      rw [← Hd.out] at htl
      obtain ⟨ta, tc, _, e0, e1, u0⟩ := hj0
      obtain ⟨k2, HK2⟩ : ∃ k2, Hid (kk + 2 * d.row.length = k2) := ⟨_, (rfl : kk + 2 * d.row.length = _)⟩
      have HNX : Hid (stRing k l (j + 1) = k2 + 1) := by rw [← HK2.out]; exact HNX1
      have hk22 : k2 ≤ 1125899906842624 := by rw [← HK2.out]; omega
      have hlt' : (j : Int) < (n : Int) := by omega
      have hk1 : 0 < kk := by omega
      have hk2 : kk ≤ 1125899900000000 := by omega
      have c0 : wr.cell? ⟨b, off + j * 2, none⟩ = some (.slice ta d.row.length tc) := e0.trans (congrArg (fun z => some (Value.slice ta z tc)) (by show (mkPoints kk d.row).length = _; rw [mkPoints_len]))
      have c1 : wr.cell? ⟨b, off + j * 2 + 1, none⟩ = some (.bool ((k2 : Int) % 3 == 0)) := by rw [← HK2.out]; exact e1
      have t0 : PtL wr ta (mkPoints kk d.row) (f j) := u0
      clear hx hT e0 e1 u0 HNX1
      go_wp2_with fail
      refine (heldPtS_any ta _ tc d.row (f j) kk _ t0 rfl htl (by omega)).mono ?_
      rintro e w4 ⟨rfl, rfl⟩
      rw [HK2.out]
      have hnn : ¬ (k2 : Int) < 0 := by omega
      clear t0
      go_wp2
      go_roundw
      case rel => exact ⟨j + 1, by omega, by go_num, by rw [HNX.out]; go_num, hbel⟩
      case measure => simp [intOf]; omega
    · have e : n = j := by omega
      subst e
      clear hT
      go_wp2
      go_ret
      exact ⟨rfl, hbel⟩
end Go.Proofs.Ytapipkcdnmehlaa
