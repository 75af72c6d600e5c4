/-
  Rules of a style, marked: contract: what is written lies in their own blocks.
-/
import Derived.Test.YtbebgfhblalghaaMarkU
import Derived.Test.YtbebgfhblalghaaMarkN
import Derived.Test.YtbebgfhblalghaaFlat
namespace Go.Proofs.Ytbebgfhblalghaa
open Go.RowKit Go.Maps

set_option maxRecDepth 100000 in
set_option maxHeartbeats 4000000 in
theorem markRuleS_any (a : Option Addr) (n c : Nat) (l : List RuleD) (bs : List Nat) (k : Nat) (w : World) (hT : Rules w a l bs) (hf : ∀ x ∈ bs, ∀ j, w.frozen? ⟨x, j, none⟩ = false) (hd : bs.Nodup) (hn : l.length = n) (hm : n ≤ 1048576) (hs : ∀ i (h : i < l.length), l[i].tests.length ≤ 1048576) (h0k : 0 < k) (hk : k ≤ 1125899906842624 - 3300000000000) :
    Calls Try.prog 55 #[.slice a n c, .int .i64 k] w fun e w' => ∃ k' : Nat, e = .returned (.int .i64 (k' : Int)) ∧ 0 < k' ∧ k' ≤ k + n * 3145734 ∧ Onl bs w w' := by
  by_cases h0 : n = 0
  · subst h0
    clear hT hd hs
    go_enter Try.func55, Try.ntmps55
    go_wp2
    go_loopw [1, 5] (fun t i wr => t = .int .i64 k ∧ i = .int .i64 0 ∧ wr = w) (fun _ _ _ => 0)
    case atStart => exact ⟨rfl, rfl, rfl⟩
    case round =>
      obtain ⟨rfl, rfl, rfl⟩ := hrel
      go_wp2
      go_ret
      exact ⟨k, rfl, h0k, by omega, Onl.refl _ _⟩
  · rcases hT with ⟨rfl, _⟩ | ⟨b, off, f, rfl, hb, rfl, hx⟩
    · exact absurd hn.symm h0
    · have hfam : ∀ i, i < n → ∃ h : i < l.length, RuleE w b (off + i * 7) l[i] (f i) := fun i hi => ⟨by omega, hx i (by omega)⟩
      rw [hn] at hd hf ⊢
      obtain ⟨hdb, hdf⟩ := List.nodup_cons.1 hd
      have HS : Hid (∀ i (h : i < l.length), l[i].tests.length ≤ 1048576) := hs
      have HDF : Hid ((List.range n).flatMap f).Nodup := hdf
      have HDB : Hid (∀ i, i < n → b ∉ f i) := fun i hi h => hdb (List.mem_flatMap.2 ⟨i, List.mem_range.2 hi, h⟩)
      have HIN : Hid (∀ i, i < n → ∀ x ∈ f i, x ∈ b :: (List.range n).flatMap f) := fun i hi x hx => List.mem_cons_of_mem _ (List.mem_flatMap.2 ⟨i, List.mem_range.2 hi, hx⟩)
      clear hn hx hd hdb hdf hs
      go_enter Try.func55, Try.ntmps55
      go_wp2
      go_loopw [1, 5] (fun t i wr => ∃ j kk : Nat, j ≤ n ∧ i = .int .i64 j ∧ t = .int .i64 (kk : Int) ∧ 0 < kk ∧ kk ≤ k + j * 3145734 ∧ Hid (∀ i, j ≤ i → i < n → ∃ h : i < l.length, RuleE wr b (off + i * 7) l[i] (f i)) ∧ Hid ((∀ o, wr.frozen? ⟨b, o, none⟩ = false) ∧ ∀ i, j ≤ i → i < n → ∀ x ∈ f i, ∀ o, wr.frozen? ⟨x, o, none⟩ = false) ∧ Onl (b :: (List.range n).flatMap f) w wr) (fun _ i _ => n - (intOf i).toNat)
      case atStart => exact ⟨0, k, Nat.zero_le _, rfl, rfl, h0k, by omega, fun i _ hi => hfam i hi, ⟨hf b (by simp), fun i _ hi x hx o => hf x (HIN.out i hi x hx) o⟩, Onl.refl _ _⟩
      case round =>
        clear hfam hf
        obtain ⟨j, kk, hj, rfl, rfl, hk1, hk2, HF, HFR, hO⟩ := hrel
        have hbr := Nat.lt_of_lt_of_le hb hO.size
        by_cases hlt : j < n
        · obtain ⟨hjl, _, _, _, _, _, c0, c1, c3, c4, c5, c6, a2, k2, _, c2, t2⟩ := HF.out j (Nat.le_refl _) hlt
          have hts := HS.out j hjl
          obtain ⟨d, Hd⟩ : ∃ d, Hid (l[j] = d) := ⟨_, (rfl : l[j] = _)⟩
          rw [Hd.out] at c0 c1 c2 c3 c4 c5 c6 t2 hts
          have hk3 : kk ≤ 1125899906842624 := by omega
          have f0 := HFR.out.1 (off + j * 7)
          have f1 := HFR.out.1 (off + j * 7 + 1)
          have hlt' : (j : Int) < (n : Int) := by omega
          obtain ⟨S2, HS2⟩ : ∃ S, Hid (S = setRow wr b (off + j * 7) [.int .i64 (kk : Int), .int .i64 ((kk : Int) + 1)]) := ⟨_, (rfl : setRow wr b (off + j * 7) [.int .i64 (kk : Int), .int .i64 ((kk : Int) + 1)] = _)⟩
          have HEQ : Hid (S2 = (wr.setCell ⟨b, off + j * 7, none⟩ (.int .i64 (kk : Int))).setCell ⟨b, off + j * 7 + 1, none⟩ (.int .i64 ((kk : Int) + 1))) := HS2.out
          have hSz : S2.heap.size = wr.heap.size := by rw [HS2.out, setRow_size]
          have hSf : ∀ x o, S2.frozen? ⟨x, o, none⟩ = wr.frozen? ⟨x, o, none⟩ := fun x o => by rw [HS2.out, setRow_frozen]
          have hSo : ∀ o, o < off + j * 7 ∨ off + j * 7 + 2 ≤ o → S2.cell? ⟨b, o, none⟩ = wr.cell? ⟨b, o, none⟩ := fun o ho => by rw [HS2.out, setRow_out _ _ _ _ _ (by simp; omega)]
          have hSO : Onl (b :: (List.range n).flatMap f) wr S2 := by rw [HS2.out]; exact (((Onl.refl _ _).set (b := b) (by simp) _ _).set (b := b) (by simp) _ _)
          have hSa : ∀ cs : List Nat, (∀ x ∈ cs, x < wr.heap.size) → b ∉ cs → Alike wr S2 cs := fun cs h1 h2 => by rw [HS2.out]; exact setRow_alike _ h1 h2
          have T2 := t2.alike testE (hSa _ (t2.lt testE) (HDB.out j hlt))
          have F2 : ∀ x ∈ f j, ∀ o, S2.frozen? ⟨x, o, none⟩ = false := fun x hx o => by rw [hSf]; exact HFR.out.2 j (Nat.le_refl _) hlt x hx o
          have HKN : Hid ((kk : Int) + 1 + 1 = ((kk + 2 : Nat) : Int)) := (by omega : (kk : Int) + 1 + 1 = ((kk + 2 : Nat) : Int))
          have hload : ((wr.setCell ⟨b, off + j * 7, none⟩ (.int .i64 (kk : Int))).setCell ⟨b, off + j * 7 + 1, none⟩ (.int .i64 ((kk : Int) + 1))).cell? ⟨b, off + j * 7 + 2, none⟩ = some (.slice a2 d.tests.length k2) := by rw [← HEQ.out, hSo _ (by omega)]; exact c2
          go_wp2_with fail
          rw [HKN.out, ← HEQ.out]
          refine (markTestS_any a2 _ k2 d.tests (f j) (kk + 2) _ T2 F2 rfl hts (by omega) (by omega)).mono ?_
          rintro e w3 ⟨rfl, _, F3, O3⟩
          obtain ⟨m, Hm⟩ : ∃ m, Hid (kk + 2 + 3 * d.tests.length = m) := ⟨_, (rfl : kk + 2 + 3 * d.tests.length = _)⟩
          rw [Hm.out]
          have hm0 : 0 < m := by rw [← Hm.out]; omega
          have hm1 : m ≤ kk + 3145730 := by rw [← Hm.out]; omega
          have hbS : b < S2.heap.size := by rw [hSz]; exact hbr
          have hc3 : ∀ o, w3.cell? ⟨b, o, none⟩ = S2.cell? ⟨b, o, none⟩ := fun o => O3.cell hbS (HDB.out j hlt)
          have hf3 : ∀ o, w3.frozen? ⟨b, o, none⟩ = false := fun o => by
            have := (O3.alike (cs := [b]) (fun x hx => by simp at hx; subst hx; exact hbS) (fun x hx => by simp at hx; subst hx; exact HDB.out j hlt)) b (by simp)
            rw [this.2.2 o, hSf]; exact HFR.out.1 o
          have hb3 : b < w3.heap.size := Nat.lt_of_lt_of_le hbS O3.size
          have e3 : w3.cell? ⟨b, off + j * 7 + 3, none⟩ = some (.bool d.hide) := by rw [hc3, hSo _ (by omega)]; exact c3
          have hO3 : Onl (b :: (List.range n).flatMap f) wr w3 := hSO.trans (O3.mono (fun x hx => HIN.out j hlt x hx))
          have g3 := hf3 (off + j * 7 + 3)
          have h3z : ¬ (3 : Int) = 0 := by decide
          obtain ⟨q, Hq⟩ : ∃ q : Bool, Hid (((m : Int) % 3 == 0) = q) := ⟨_, (rfl : ((m : Int) % 3 == 0) = _)⟩
          have HMN : Hid ((m : Int) + 1 = ((m + 1 : Nat) : Int)) := (by omega : (m : Int) + 1 = ((m + 1 : Nat) : Int))
          clear hload c0 c1 f0 f1
          go_wp2_with fail
          rw [HMN.out]
          refine (markText_any (m + 1) _ (by omega) (by omega)).mono ?_
          rintro e w5 ⟨rfl, hb5⟩
          obtain ⟨W4, HW4⟩ : ∃ W, Hid (W = w3.setCell ⟨b, off + j * 7 + 3, none⟩ (.bool ((m : Int) % 3 == 0))) := ⟨_, (rfl : w3.setCell ⟨b, off + j * 7 + 3, none⟩ (.bool ((m : Int) % 3 == 0)) = _)⟩
          rw [← HW4.out] at hb5
          have h4s : b < W4.heap.size := by rw [HW4.out]; simpa [World.setCell] using hb3
          have h4o : ∀ o, o ≠ off + j * 7 + 3 → W4.cell? ⟨b, o, none⟩ = w3.cell? ⟨b, o, none⟩ := fun o ho => by rw [HW4.out]; exact World.cell?_setCell_other _ _ _ _ (fun e => by have := congrArg Addr.off e; simp at this; omega)
          have hf5 : ∀ o, w5.frozen? ⟨b, o, none⟩ = false := fun o => by rw [hb5.out.frozen (p := ⟨b, o, none⟩) h4s, HW4.out, World.frozen?_setCell]; exact hf3 o
          have hc5 : ∀ o, o < off + j * 7 ∨ off + j * 7 + 7 ≤ o → w5.cell? ⟨b, o, none⟩ = wr.cell? ⟨b, o, none⟩ := fun o ho => by rw [hb5.out.cell (p := ⟨b, o, none⟩) h4s, h4o o (by omega), hc3, hSo o (by omega)]
          have e4 : w5.cell? ⟨b, off + j * 7 + 4, none⟩ = some (.string d.col) := by rw [hb5.out.cell (p := ⟨b, _, none⟩) h4s, h4o _ (by omega), hc3, hSo _ (by omega)]; exact c4
          have e5 : w5.cell? ⟨b, off + j * 7 + 5, none⟩ = some (.int .i64 d.wd) := by rw [hb5.out.cell (p := ⟨b, _, none⟩) h4s, h4o _ (by omega), hc3, hSo _ (by omega)]; exact c5
          have e6 : w5.cell? ⟨b, off + j * 7 + 6, none⟩ = some (.int .i64 d.lay) := by rw [hb5.out.cell (p := ⟨b, _, none⟩) h4s, h4o _ (by omega), hc3, hSo _ (by omega)]; exact c6
          have g4 := hf5 (off + j * 7 + 4)
          have g5 := hf5 (off + j * 7 + 5)
          have g6 := hf5 (off + j * 7 + 6)
          have hO5 : Onl (b :: (List.range n).flatMap f) wr w5 := by
            have : Onl (b :: (List.range n).flatMap f) wr W4 := by rw [HW4.out]; exact hO3.set (b := b) (by simp) _ _
            exact this.bel hb5
          have hb5l := bel_lt hb5 h4s
          obtain ⟨u, Hu⟩ : ∃ u, Hid (mT (m + 1) = u) := ⟨_, (rfl : mT (m + 1) = _)⟩
          rw [Hu.out]
          have HE : Hid (∀ W', W' = ((w5.setCell ⟨b, off + j * 7 + 4, none⟩ (.string u)).setCell ⟨b, off + j * 7 + 5, none⟩ (.int .i64 ((m : Int) + 1 + 1))).setCell ⟨b, off + j * 7 + 6, none⟩ (.int .i64 ((m : Int) + 1 + 1 + 1)) →
              (∀ i, j + 1 ≤ i → i < n → ∃ h : i < l.length, RuleE W' b (off + i * 7) l[i] (f i)) ∧ ((∀ o, W'.frozen? ⟨b, o, none⟩ = false) ∧ ∀ i, j + 1 ≤ i → i < n → ∀ x ∈ f i, ∀ o, W'.frozen? ⟨x, o, none⟩ = false) ∧ Onl (b :: (List.range n).flatMap f) w W') := by
            rintro W' rfl
            have hOW : Onl (b :: (List.range n).flatMap f) wr (((w5.setCell ⟨b, off + j * 7 + 4, none⟩ (.string u)).setCell ⟨b, off + j * 7 + 5, none⟩ (.int .i64 ((m : Int) + 1 + 1))).setCell ⟨b, off + j * 7 + 6, none⟩ (.int .i64 ((m : Int) + 1 + 1 + 1))) := ((hO5.set (b := b) (by simp) _ _).set (b := b) (by simp) _ _).set (b := b) (by simp) _ _
            have hA : ∀ cs : List Nat, (∀ x ∈ cs, x < wr.heap.size) → b ∉ cs → (∀ x ∈ cs, x ∉ f j) → Alike wr (((w5.setCell ⟨b, off + j * 7 + 4, none⟩ (.string u)).setCell ⟨b, off + j * 7 + 5, none⟩ (.int .i64 ((m : Int) + 1 + 1))).setCell ⟨b, off + j * 7 + 6, none⟩ (.int .i64 ((m : Int) + 1 + 1 + 1))) cs := fun cs h1 h2 h3 => by
              have a1 := hSa cs h1 h2
              have a2' := O3.alike (cs := cs) (fun x hx => by rw [hSz]; exact h1 x hx) h3
              have a12 := a1.trans a2'
              have a4 : Alike wr W4 cs := by rw [HW4.out]; exact a12.set h2 _ _
              have a5 : Alike wr w5 cs := a4.trans (Alike.bel hb5 fun x hx => (a4 x hx).1)
              exact ((a5.set h2 _ _).set h2 _ _).set h2 _ _
            refine ⟨fun i hji hi => ?_, ⟨fun o => ?_, fun i hji hi x hxi o => ?_⟩, hO.trans hOW⟩
            · obtain ⟨h, hE⟩ := HF.out i (by omega) hi
              refine ⟨h, ruleE.alike hE (fun t ht => ?_) (hA (f i) (ruleE.lt hE) (HDB.out i hi) (nd_ne HDF.out hi hlt (by omega)))⟩
              rw [World.cell?_setCell_other _ _ _ _ (fun e => by have := congrArg Addr.off e; simp at this; omega), World.cell?_setCell_other _ _ _ _ (fun e => by have := congrArg Addr.off e; simp at this; omega), World.cell?_setCell_other _ _ _ _ (fun e => by have := congrArg Addr.off e; simp at this; omega)]
              exact hc5 _ (by omega)
            · rw [World.frozen?_setCell, World.frozen?_setCell, World.frozen?_setCell]
              exact hf5 o
            · obtain ⟨_, hE⟩ := HF.out i (by omega) hi
              have := (hA (f i) (ruleE.lt hE) (HDB.out i hi) (nd_ne HDF.out hi hlt (by omega))) x hxi
              rw [this.2.2 o]
              exact HFR.out.2 i (by omega) hi x hxi o
          have HK2 : Hid (m + 4 ≤ k + (j + 1) * 3145734) := (by omega : m + 4 ≤ k + (j + 1) * 3145734)
          clear hc5 hc3 hSo hSa T2 F2 F3 O3 hO3 hO5 c2 c3 c4 c5 c6 t2 hb5 hf3 hf5 e3 g3
          go_wp2
          go_roundw
          case rel =>
            obtain ⟨r1, r2, r3⟩ := HE.out _ rfl
            exact ⟨j + 1, m + 4, by omega, by go_num, by go_num, by omega, HK2.out, r1, r2, r3⟩
          case measure => simp [intOf]; omega
        · have e : n = j := by omega
          subst e
          go_wp2
          go_ret
          exact ⟨kk, rfl, hk1, hk2, hO⟩
end Go.Proofs.Ytbebgfhblalghaa
