/-
  Pieces of a row that lie behind each other in one block: how they are read, marked and found to be marked.
-/
import Derived.Test.YtbfcmlajlppmdaaClpI
import Derived.Test.YtbfcmlajlppmdaaClpX
import Derived.Test.YtbfcmlajlppmdaaPtsE
namespace Go.Proofs.Ytbfcmlajlppmdaa
open Go.RowKit Go.Maps

/-- A row in a row. -/
def RowE : Elem (List PtD) := fun w b o d bs => ∃ a c, d.length ≤ maxLen ∧ w.cell? ⟨b, o, none⟩ = some (.slice a d.length c) ∧ PtL w a d bs
theorem rowE : Stays 1 RowE := ⟨fun ⟨a, c, hl, h0, h2⟩ hc hA => ⟨a, c, hl, same_cell hc 0 (by decide) h0, h2.alike ptE hA⟩, fun ⟨_, _, _, _, h⟩ => Sl.lt ptE h⟩
abbrev RowsL := Sl 1 RowE
/-- The program's pieces. -/
def PieL (w : World) (a : Option Addr) (L : List (List PtD)) (bs : List Nat) : Prop :=
 (L = [] ∧ bs = []) ∨ ∃ R g, a = some ⟨R, 0, none⟩ ∧ bs = [R, g] ∧ R ≠ g ∧ R < w.heap.size ∧ g < w.heap.size ∧ GoodP L ∧ L.flatten.length ≤ 1000000 ∧ (∀ i, i < L.length → w.cell? ⟨R, i, none⟩ = some (ctV g (stN L) i)) ∧
  ∀ j (h : j < L.flatten.length), w.cell? ⟨g, j * 2, none⟩ = some (.int .i64 L.flatten[j].x) ∧ w.cell? ⟨g, j * 2 + 1, none⟩ = some (.int .i64 L.flatten[j].y)
/-- .. marked. -/
def MkL (w : World) (a : Option Addr) (L : List (List PtD)) (bs : List Nat) (k : Nat) : Prop :=
 (L = [] ∧ bs = []) ∨ ∃ R g, a = some ⟨R, 0, none⟩ ∧ bs = [R, g] ∧ R < w.heap.size ∧ g < w.heap.size ∧ L.flatten.length ≤ 1000000 ∧ (∀ i, i < L.length → w.cell? ⟨R, i, none⟩ = some (ctV g (stN L) i)) ∧
  ∀ j, j < L.flatten.length * 2 → w.cell? ⟨g, j, none⟩ = some (.int .i64 ((k + j : Nat) : Int))
theorem PieL.alike {w w' : World} {a : Option Addr} {L : List (List PtD)} {bs : List Nat} (h : PieL w a L bs) (_ : Stays 1 RowE) (hA : Alike w w' bs) : PieL w' a L bs := by
 rcases h with h | ⟨R, g, h1, h2, h3, h4, h5, h6, h7, h8, h9⟩
 ·exact .inl h
 ·subst h2
  have aR := hA R (by simp)
  have ag := hA g (by simp)
  exact .inr ⟨R, g, h1, rfl, h3, aR.1, ag.1, h6, h7, fun i hi => (aR.2.1 i).trans (h8 i hi), fun j hj => ⟨(ag.2.1 _).trans (h9 j hj).1, (ag.2.1 _).trans (h9 j hj).2⟩⟩
theorem PieL.lt {w : World} {a : Option Addr} {L : List (List PtD)} {bs : List Nat} (h : PieL w a L bs) (_ : Stays 1 RowE) : ∀ x ∈ bs, x < w.heap.size := by
 rcases h with ⟨_, rfl⟩ | ⟨R, g, _, rfl, _, h4, h5, _⟩
 ·exact fun _ h => nomatch h
 ·intro x hx
  simp only [List.mem_cons, List.not_mem_nil, or_false] at hx
  rcases hx with rfl | rfl
  ·exact h4
  ·exact h5
theorem PieL.bel {w w' : World} {a : Option Addr} {L : List (List PtD)} {bs : List Nat} (h : PieL w a L bs) (s : Stays 1 RowE) (hb : Bel w w') : PieL w' a L bs := h.alike s (Alike.bel hb (h.lt s))
theorem MkL.bel {w w' : World} {a : Option Addr} {L : List (List PtD)} {bs : List Nat} {k : Nat} (h : MkL w a L bs k) (_ : Stays 1 RowE) (hb : Bel w w') : MkL w' a L bs k := by
 rcases h with h | ⟨R, g, h1, h2, h4, h5, h7, h8, h9⟩
 ·exact .inl h
 ·exact .inr ⟨R, g, h1, h2, bel_lt hb h4, bel_lt hb h5, h7, fun i hi => bel_cellM hb h4 (h8 i hi), fun j hj => bel_cellM hb h5 (h9 j hj)⟩
/-- They are read as rows. -/
theorem PieL.rows {w : World} {a : Option Addr} {L : List (List PtD)} {bs : List Nat} (h : PieL w a L bs) : ∃ bs', RowsL w a L bs' := by
 rcases h with ⟨rfl, _⟩ | ⟨R, g, h1, h2, h3, h4, h5, h6, h7, h8, h9⟩
 ·exact ⟨[], .inl ⟨rfl, rfl⟩⟩
 ·refine ⟨_, .inr ⟨R, 0, fun i => g :: (List.range ((L[i]?.getD []).length)).flatMap fun _ => [], h1, h4, rfl, fun i hi => ?_⟩⟩
  have hlen : L[i].length ≤ L.flatten.length := by
   have h1 := stN_succ hi
   have h2 : stN L (i + 1) ≤ L.flatten.length := by
    unfold stN
    have := congrArg (fun l => l.flatten.length) (List.take_append_drop (i + 1) L)
    simp only [List.flatten_append, List.length_append] at this
    omega
   omega
  refine ⟨some ⟨g, stN L i * 2, none⟩, L[i].length, by unfold maxLen; omega, ?_, ?_⟩
  ·rw [Nat.mul_one, Nat.zero_add, h8 i hi]
   unfold ctV
   have e : stN L (i + 1) - stN L i = L[i].length := by rw [stN_succ hi]; omega
   rw [e]
  ·have e : (L[i]?.getD []).length = L[i].length := by simp [hi]
   show PtL w (some ⟨g, stN L i * 2, none⟩) L[i] (g :: (List.range ((L[i]?.getD []).length)).flatMap fun _ => [])
   rw [e]
   refine .inr ⟨g, stN L i * 2, fun _ => [], rfl, h5, rfl, fun j hj => ?_⟩
   obtain ⟨hf, hv⟩ := flat_at hi hj
   obtain ⟨c0, c1⟩ := h9 _ hf
   rw [hv] at c0 c1
   have h64 := h6.in64 L[i] (List.getElem_mem hi) L[i][j] (List.getElem_mem hj)
   have e2 : (stN L i + j) * 2 = stN L i * 2 + j * 2 := by omega
   rw [e2] at c0 c1
   exact ⟨rfl, h64.1, h64.2, c0, c1⟩

set_option maxRecDepth 100000 in
set_option maxHeartbeats 1000000 in
theorem eqSS_any (a a' : Option Addr) (n c c' : Nat) (L : List (List PtD)) (bs bs' : List Nat) (w : World) (hP : RowsL w a L bs) (hP' : RowsL w a' L bs') (hn : L.length = n) (hm : n ≤ 1048576) (hs : ∀ d ∈ L, d.length ≤ 1048576) :
  Calls Try.prog 11 #[.slice a n c, .slice a' n c'] w fun e w' => e = .returned (.bool true) ∧ Bel w w' := by
 have Hn : Hid (L.length = n) := hn
 have Hs : Hid (∀ d ∈ L, d.length ≤ 1048576) := hs
 clear hn hs
 go_enter Try.func11, Try.ntmps11
 go_wp2
 go_loopw [5] (fun i wr => ∃ k : Nat, k ≤ n ∧ i = .int .i64 k ∧ Bel w wr) (fun i _ => n - (intOf i).toNat)
 case atStart => exact ⟨0, Nat.zero_le _, rfl, Bel.refl _⟩
 case round =>
  obtain ⟨k, hk, rfl, hbel⟩ := hrel
  by_cases hlt : k < n
  ·have hkl : k < L.length := by rw [Hn.out]; exact hlt
   obtain ⟨b, off, f, rfl, h2, h3⟩ := (hP.bel rowE hbel).out hkl
   obtain ⟨b', off', f', rfl, h2', h3'⟩ := (hP'.bel rowE hbel).out hkl
   obtain ⟨a0, k0, m0, c0, t0⟩ := h3 k hkl
   obtain ⟨a0', k0', m0', c0', t0'⟩ := h3' k hkl
   rw [Nat.mul_one] at c0 c0'
   have hsk := Hs.out L[k] (List.getElem_mem hkl)
   obtain ⟨d, Hd⟩ : ∃ d, Hid (L[k] = d) := ⟨_, (rfl : L[k] = _)⟩
   rw [Hd.out] at c0 c0' t0 t0' hsk
   obtain ⟨q, Hq⟩ : ∃ q, Hid (d.length = q) := ⟨_, (rfl : d.length = _)⟩
   rw [Hq.out] at c0 c0' hsk
   have hR : ∀ w', Bel wr w' → w'.cell? ⟨b, off + k, none⟩ = some (.slice a0 q k0) ∧ w'.cell? ⟨b', off' + k, none⟩ = some (.slice a0' q k0') := fun w' h => ⟨bel_cellM h h2 c0, bel_cellM h h2' c0'⟩
   have T0 : ∀ w', Bel wr w' → PtL w' a0 d (f k) := fun w' h => t0.bel ptE h
   have T0' : ∀ w', Bel wr w' → PtL w' a0' d (f' k) := fun w' h => t0'.bel ptE h
   have hlt' : (k : Int) < (n : Int) := by omega
   have g0 : Bel wr wr := Bel.refl _
   clear h3 h3' c0 c0' h2 h2' hP hP' t0 t0'
   go_wp2
   go_region_held3 (fun w' => Bel wr w') (repeat (first | exact g0 | refine Bel.drew ?_ | assumption | refine bel_then (by assumption) ?_))
    (first
     | (go_at_call 12; refine (eqPtS_same a0 a0' q k0 k0' d (f k) (f' k) _ (T0 _ (by assumption)) (T0' _ (by assumption)) Hq.out hsk).mono ?_; rintro e w' ⟨rfl, hbk⟩))
   have hH : Bel wr w' := by assumption
   go_wp2
   go_roundw
   case rel => exact ⟨k + 1, by omega, by go_num, bel_step hbel hH⟩
   case measure => simp [intOf]; omega
  ·have e : k = n := by omega
   subst e
   go_wp2
   go_ret
   exact ⟨rfl, hbel⟩

/-- Cells lo .. hi - 1 of block g are numbered from k on, all else is as it was. -/
structure Mk (w wr : World) (g lo hi k : Nat) : Prop where
 cell : ∀ j, lo + j < hi → wr.cell? ⟨g, lo + j, none⟩ = some (.int .i64 ((k + j : Nat) : Int))
 oth : ∀ b o, (b ≠ g ∨ o < lo ∨ hi ≤ o) → wr.cell? ⟨b, o, none⟩ = w.cell? ⟨b, o, none⟩
 fro : ∀ b o, wr.frozen? ⟨b, o, none⟩ = w.frozen? ⟨b, o, none⟩
 onl : Onl [g] w wr
theorem Mk.refl (w : World) (g lo k : Nat) : Mk w w g lo lo k := ⟨fun j h => absurd h (by omega), fun _ _ _ => rfl, fun _ _ => rfl, Onl.refl _ _⟩
theorem Mk.add {w wr : World} {g lo hi k : Nat} (h : Mk w wr g lo hi k) (hl : lo ≤ hi) {u v : Value} (h0 : wr.cell? ⟨g, hi, none⟩ = some u) (h1 : wr.cell? ⟨g, hi + 1, none⟩ = some v) {x : Nat} (hx : x = k + (hi - lo)) :
  Mk w ((wr.setCell ⟨g, hi, none⟩ (.int .i64 (x : Int))).setCell ⟨g, hi + 1, none⟩ (.int .i64 ((x : Int) + 1))) g lo (hi + 2) k := by
 have h1' : (wr.setCell ⟨g, hi, none⟩ (.int .i64 (x : Int))).cell? ⟨g, hi + 1, none⟩ = some v := by rw [World.cell?_setCell_other _ _ _ _ (fun e => by simp at e)]; exact h1
 refine ⟨fun j hj => ?_, fun b o hbo => ?_, fun b o => ?_, (h.onl.set (by simp) _ _).set (by simp) _ _⟩
 ·by_cases e : lo + j = hi + 1
  ·rw [e, World.cell?_setCell_same _ _ _ (by rw [h1'])]
   congr 2 <;> omega
  ·rw [World.cell?_setCell_other _ _ _ _ (fun e2 => e (by simpa using e2.symm))]
   by_cases e3 : lo + j = hi
   ·rw [e3, World.cell?_setCell_same _ _ _ (by rw [h0])]
    congr 2 <;> omega
   ·rw [World.cell?_setCell_other _ _ _ _ (fun e2 => e3 (by simpa using e2.symm))]
    exact h.cell j (by omega)
 ·rw [World.cell?_setCell_other _ _ _ _ (fun e2 => by simp at e2; omega), World.cell?_setCell_other _ _ _ _ (fun e2 => by simp at e2; omega)]
  exact h.oth b o (by omega)
 ·rw [World.frozen?_setCell, World.frozen?_setCell]; exact h.fro b o
theorem Mk.join {w wa wb : World} {g lo mid hi k k2 : Nat} (h : Mk w wa g lo mid k) (h2 : Mk wa wb g mid hi k2) (hk : k2 = k + (mid - lo)) (h1 : lo ≤ mid) (h3 : mid ≤ hi) : Mk w wb g lo hi k := by
 refine ⟨fun j hj => ?_, fun b o hbo => ?_, fun b o => (h2.fro b o).trans (h.fro b o), h.onl.trans h2.onl⟩
 ·by_cases e : lo + j < mid
  ·rw [h2.oth g (lo + j) (.inr (.inl e))]; exact h.cell j e
  ·have := h2.cell (lo + j - mid) (by omega)
   have e2 : mid + (lo + j - mid) = lo + j := by omega
   rw [e2] at this
   rw [this]
   congr 2
   omega
 ·rw [h2.oth b o (by omega), h.oth b o (by omega)]

set_option maxRecDepth 100000 in
set_option maxHeartbeats 1000000 in
theorem markRow_any (g off n c k : Nat) (w : World) (hb : g < w.heap.size) (hc : ∀ j, j < n * 2 → ∃ v, w.cell? ⟨g, off + j, none⟩ = some v) (hf : ∀ j, w.frozen? ⟨g, j, none⟩ = false) (hm : n ≤ 1048576) (hk : k ≤ 1125899906842624) :
  Calls Try.prog 13 #[.slice (some ⟨g, off, none⟩) n c, .int .i64 k] w fun e w' => e = .returned (.int .i64 ((k + 2 * n : Nat) : Int)) ∧ Mk w w' g off (off + n * 2) k := by
 go_enter Try.func13, Try.ntmps13
 go_wp2
 go_loopw [1, 5] (fun t i wr => ∃ j : Nat, j ≤ n ∧ i = .int .i64 j ∧ t = .int .i64 ((k + 2 * j : Nat) : Int) ∧ Mk w wr g off (off + j * 2) k) (fun _ i _ => n - (intOf i).toNat)
 case atStart => exact ⟨0, Nat.zero_le _, rfl, by simp, by simpa using Mk.refl w g off k⟩
 case round =>
  obtain ⟨j, hj, rfl, rfl, hM⟩ := hrel
  have hbr := Nat.lt_of_lt_of_le hb hM.onl.size
  by_cases hlt : j < n
  ·obtain ⟨u, hu⟩ := hc (j * 2) (by omega)
   obtain ⟨v, hv⟩ := hc (j * 2 + 1) (by omega)
   have c0 : wr.cell? ⟨g, off + j * 2, none⟩ = some u := (hM.oth g _ (.inr (.inr (by omega)))).trans hu
   have c1 : wr.cell? ⟨g, off + j * 2 + 1, none⟩ = some v := (hM.oth g _ (.inr (.inr (by omega)))).trans hv
   have f0 : wr.frozen? ⟨g, off + j * 2, none⟩ = false := (hM.fro g _).trans (hf _)
   have f1 : wr.frozen? ⟨g, off + j * 2 + 1, none⟩ = false := (hM.fro g _).trans (hf _)
   have hlt' : (j : Int) < (n : Int) := by omega
   obtain ⟨kk, hkk⟩ : ∃ kk, k + 2 * j = kk := ⟨_, rfl⟩
   have hk2 : kk ≤ 1125902004000000 := by omega
   have HK : Hid (k + 2 * (j + 1) = kk + 2) := (by omega : k + 2 * (j + 1) = kk + 2)
   have HM := hM.add (by omega) c0 c1 (x := kk) (by omega)
   have HM2 : Hid (Mk w ((wr.setCell ⟨g, off + j * 2, none⟩ (.int .i64 (kk : Int))).setCell ⟨g, off + j * 2 + 1, none⟩ (.int .i64 ((kk : Int) + 1))) g off (off + (j + 1) * 2) k) := by
    have e : off + (j + 1) * 2 = off + j * 2 + 2 := by omega
    rw [e]; exact HM
   rw [hkk]
   clear hM hkk HM hu hv hc hf
   go_wp2
   go_roundw
   case rel => exact ⟨j + 1, by omega, by go_num, by rw [HK.out]; go_num, HM2.out⟩
   case measure => simp [intOf]; omega
  ·have e : n = j := by omega
   subst e
   have HM : Hid (Mk w wr g off (off + n * 2) k) := hM
   clear hM hc hf
   go_wp2
   go_ret
   exact ⟨rfl, HM.out⟩

set_option maxRecDepth 100000 in
set_option maxHeartbeats 1000000 in
theorem heldRow_any (g off n c k : Nat) (w : World) (hb : g < w.heap.size) (hc : ∀ j, j < n * 2 → w.cell? ⟨g, off + j, none⟩ = some (.int .i64 ((k + j : Nat) : Int))) (hm : n ≤ 1048576) (hk : k ≤ 1125899906842624) :
  Calls Try.prog 36 #[.slice (some ⟨g, off, none⟩) n c, .int .i64 k] w fun e w' => e = .returned (.int .i64 ((k + 2 * n : Nat) : Int)) ∧ w' = w := by
 have HC : Hid (∀ i, i < n → w.cell? ⟨g, off + i * 2, none⟩ = some (.int .i64 ((k : Int) + 2 * (i : Int))) ∧ w.cell? ⟨g, off + i * 2 + 1, none⟩ = some (.int .i64 ((k : Int) + 2 * (i : Int) + 1))) := fun i hi => by
  refine ⟨?_, ?_⟩
  ·rw [hc (i * 2) (by omega)]; congr 2; omega
  ·have := hc (i * 2 + 1) (by omega)
   rw [← Nat.add_assoc] at this
   rw [this]; congr 2; omega
 clear hc
 go_enter Try.func36, Try.ntmps36
 go_wp2
 go_loopw [1, 5] (fun t i wr => ∃ j : Nat, j ≤ n ∧ i = .int .i64 j ∧ t = .int .i64 ((k : Int) + 2 * (j : Int)) ∧ wr = w) (fun _ i _ => n - (intOf i).toNat)
 case atStart => exact ⟨0, Nat.zero_le _, rfl, by simp, rfl⟩
 case round =>
  obtain ⟨j, hj, rfl, rfl, rfl⟩ := hrel
  by_cases hlt : j < n
  ·obtain ⟨cx, cy⟩ := HC.out j hlt
   have hlt' : (j : Int) < (n : Int) := by omega
   go_wp2
   go_roundw
   case rel => exact ⟨j + 1, by omega, by go_num, by go_num, trivial⟩
   case measure => simp [intOf]; omega
  ·have e : n = j := by omega
   subst e
   go_wp2
   go_ret
   exact ⟨ret_num (by omega), rfl⟩
end Go.Proofs.Ytbfcmlajlppmdaa
