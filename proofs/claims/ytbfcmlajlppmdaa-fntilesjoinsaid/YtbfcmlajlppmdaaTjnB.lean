/-
  The points of a row at an X: the law's own question.
-/
import Derived.Test.YtbfcmlajlppmdaaCD
import Derived.Test.YtbfcmlajlppmdaaCH
import Derived.Laws.OwnMore
import Derived.Deep.AppendLies
namespace Go.Proofs.Ytbfcmlajlppmdaa
open Go.RowKit Go.Maps

def atP (e : Int) (d : PtD) : Bool := decide (d.x = e)
def atQ (e : Int) (l : List PtD) : List PtD := l.filter (atP e)
theorem atQ_yes {e : Int} {l : List PtD} {k : Nat} (h : k < l.length) (hx : l[k].x = e) : atQ e (l.take (k + 1)) = atQ e (l.take k) ++ [l[k]] := by
 unfold atQ; rw [List.take_succ_eq_append_getElem h, List.filter_append]; simp [atP, hx]
theorem atQ_no {e : Int} {l : List PtD} {k : Nat} (h : k < l.length) (hx : ¬ l[k].x = e) : atQ e (l.take (k + 1)) = atQ e (l.take k) := by
 unfold atQ; rw [List.take_succ_eq_append_getElem h, List.filter_append]; simp [atP, hx]
theorem atQ_len (e : Int) (l : List PtD) : (atQ e l).length ≤ l.length := by unfold atQ; exact List.length_filter_le _ _

set_option maxRecDepth 100000 in
set_option maxHeartbeats 4000000 in
theorem at_any (a : Option Addr) (n c : Nat) (l : List PtD) (bs : List Nat) (e : Int) (w : World) (hT : PtL w a l bs) (hn : l.length = n) (hm : n ≤ 1048576) :
  Calls Try.prog 25 #[.slice a n c, .int .i64 e] w fun r w' => ∃ a' c' bs', r = .returned (.slice a' (atQ e l).length c') ∧ PtL w' a' (atQ e l) bs' ∧ Bel w w' := by
 obtain ⟨i0, hi0, hz0, hz1, hz2⟩ := info_parts infoPq
 have Hn : Hid (l.length = n) := hn
 clear hn
 have G0 : Hid (GrP w.heap.size (w.alloc (.cells #[] 32)) (.slice (some ⟨w.heap.size, 0, none⟩) 0 0) (atQ e (l.take 0)) (fun _ => List.replicate 2 (.bool false))) :=
  ⟨World.ownsRow_lit w #[] 0 (Nat.le_refl _) (by decide) rfl, fun _ => by simp, fun i h => absurd h (Nat.not_lt_zero _), fun i h => absurd h (Nat.not_lt_zero _), by simp [atQ]⟩
 go_enter Try.func25, Try.ntmps25
 go_wp2
 go_loopw [5, 6] (fun v i wr => ∃ (k : Nat) (R : Nat → List Value), k ≤ n ∧ i = .int .i64 k ∧ GrP w.heap.size wr v (atQ e (l.take k)) R ∧ Bel w wr) (fun _ i _ => n - (intOf i).toNat)
 case atStart => exact ⟨0, _, Nat.zero_le _, rfl, G0.out, bel_alloc (Bel.refl _) _⟩
 case round =>
  obtain ⟨k, R, hk, rfl, hG, hBr⟩ := hrel
  obtain ⟨va, vc, hv⟩ := own_shape hG.own
  obtain ⟨v, rfl⟩ : ∃ x, x = u5 := ⟨_, rfl⟩
  subst hv
  by_cases hlt : k < n
  ·have hkl : k < l.length := by rw [Hn.out]; exact hlt
   obtain ⟨b, off, f, rfl, hb, hx⟩ := (hT.bel ptE hBr).out hkl
   obtain ⟨_, i1, i2, c0, c1⟩ := hx k hkl
   have HLn : Hid ((atQ e (l.take k)).length ≤ k) := (Nat.le_trans (atQ_len _ _) (by simp; omega) : (atQ e (l.take k)).length ≤ k)
   obtain ⟨d, Hd⟩ : ∃ d, Hid (d = l[k]) := ⟨_, (rfl : l[k] = _)⟩
   rw [← Hd.out] at c0 c1 i1 i2
   have hlt' : (k : Int) < (n : Int) := by omega
   obtain ⟨m, Hm⟩ : ∃ m, Hid ((atQ e (l.take k)).length = m) := ⟨_, (rfl : (atQ e (l.take k)).length = _)⟩
   have HG : Hid (GrP w.heap.size wr (.slice va m vc) (atQ e (l.take k)) R) := by rw [← Hm.out]; exact hG
   rw [Hm.out] at HLn ⊢
   have HP : Hid (PqP d) := ⟨i1, i2⟩
   clear hx hG
   by_cases hi : d.x = e
   ·have HC : Hid (atQ e (l.take (k + 1)) = atQ e (l.take k) ++ [d]) := by
     have := atQ_yes (e := e) hkl (by rw [← Hd.out]; exact hi)
     rw [← Hd.out] at this; exact this
    have HI : Hid (d = ⟨e, d.y⟩) := (by rw [← hi] : d = ⟨e, d.y⟩)
    rw [hi] at c0
    obtain ⟨dy, Hdy⟩ : ∃ y, Hid (d.y = y) := ⟨_, (rfl : d.y = _)⟩
    rw [Hdy.out] at c1 HI
    clear hi
    have hown2 := World.ownsRow.alloc HG.out.own (.cells #[.int .i64 e, .int .i64 dy] 32)
    rw [Hm.out] at hown2
    have hs3 : w.heap.size ≤ wr.heap.size := hBr.out.size
    have hml := HLn.out
    go_wp2_with (first
     | (at_builtin; refine wpList_append_lies _ rfl _ _ 30 rfl w.heap.size 32 i0 (.agg #[.int .i64 0, .int .i64 0]) 2 16 Try.underlying30 hi0 hz0 hz1 hz2 rfl (by decide) _ _ _ rfl hown2 ⟨wr.heap.size, 0, none⟩ 1 1 [.int .i64 e, .int .i64 dy] rfl rfl ?c1 ?c2 (by decide) ?c3 ?c4 ?c5 (wr.heap.size + 1) ?c6 ?_)
     | go_in)
    case c1 =>
     intro t u ht
     match t, ht with
     | 0, ht => simp at ht; subst ht; simp [Addr.add]
     | 1, ht => simp at ht; subst ht; simp [Addr.add]
    case c2 =>
     intro u hu
     simp at hu
     rcases hu with rfl | rfl <;> rfl
    case c3 => unfold maxLen; omega
    case c4 => omega
    case c5 => simp; omega
    case c6 => simp
    intro g cap w4 hown' hgrow hat _
    have HG3 : Hid (∃ R', GrP w.heap.size w4 (.slice (some ⟨g, 0, none⟩) (m + 1) cap) (atQ e (l.take (k + 1))) R') := by
     have hat' : (Value.slice va m vc).ownBlock = some g ∨ g = (wr.alloc (.cells #[.int .i64 e, .int .i64 dy] 32)).heap.size := by simpa using hat
     have := Gr.addF pqF (d := d) HG.out (bel_alloc (Bel.refl wr) (.cells #[.int .i64 e, .int .i64 dy] 32)) HP.out hs3 (by rw [Hm.out, HI.out]; exact hown') hgrow (hatF hat')
     rw [HC.out]
     exact this
    have hB4 : Bel w w4 := bel_grow (bel_alloc hBr _) hgrow (fun t e => (hown2.lt t e).1)
    clear hown' hgrow hown2 HG hat HC
    go_wp2
    go_roundw
    case rel =>
     obtain ⟨R', G'⟩ := HG3.out
     exact ⟨k + 1, R', by omega, by go_num, G', hB4⟩
    case measure => simp [intOf]; omega
   ·have HC : Hid (atQ e (l.take (k + 1)) = atQ e (l.take k)) := atQ_no hkl (by rw [← Hd.out]; exact hi)
    go_wp2
    go_roundw
    case rel => exact ⟨k + 1, R, by omega, by go_num, by rw [HC.out]; exact HG.out, hBr⟩
    case measure => simp [intOf]; omega
  ·have e2 : k = n := by omega
   subst e2
   have e3 : l.take k = l := by rw [List.take_of_length_le (by rw [Hn.out]; exact Nat.le_refl _)]
   rw [e3] at hG ⊢
   have HO : Hid (∃ a' c' bs', Value.slice va (atQ e l).length vc = .slice a' (atQ e l).length c' ∧ PtL wr a' (atQ e l) bs') := by
    obtain ⟨a', c', bs', h1, h2, _⟩ := Gr.out pqF.stays hG
    exact ⟨a', c', bs', h1, h2⟩
   clear hG
   go_wp2
   go_ret
   obtain ⟨a', c', bs', h1, h2⟩ := HO.out
   exact ⟨a', c', bs', congrArg Ending.returned h1, h2, hBr⟩
end Go.Proofs.Ytbfcmlajlppmdaa
